/-
  Contract of the law's live: the chapter's examples. Condition: the package's words as the card says.
-/
import Derived.Test.YtcnhkoijphfibaaDoorCsnF4
import Derived.Test.YtcnhkoijphfibaaDoorCsnP3
import Derived.Test.YtcnhkoijphfibaaDoorCsnF9
import Derived.Test.YtcnhkoijphfibaaDoorCsnS1
set_option maxRecDepth 100000
set_option linter.unusedVariables false
set_option linter.unusedSimpArgs false
set_option linter.unnecessarySimpa false
namespace Go.Proofs.YtcnhkoijphfibaaDoor
open Go.RowKit Go.PlainAid

theorem cell_lit (w : World) (c : Array Value) (t : TypeId) (i : Nat) (v : Value) (hv : c[i]? = some v) : (w.alloc (.cells c t)).cell? ⟨w.heap.size, i, none⟩ = some v := (kbc_new w (.cells c t)).cell hv
theorem cns_new2 (w : World) (c d : Cn) : CnsAt (w.alloc (.cells #[.int .i64 c.1, .int .i64 c.2.1, .int .i64 c.2.2, .int .i64 d.1, .int .i64 d.2.1, .int .i64 d.2.2] 23)) (some ⟨w.heap.size, 0, none⟩) 2 2 [c, d] := by
  refine ⟨rfl, Nat.le_refl _, by unfold maxLen; omega, fun _ => ⟨w.heap.size, 0, rfl, box_lt _ _, fun j hj => ?_⟩, fun h => (by cases h)⟩
  have hj : j < 2 := hj
  match j, hj with
  | 0, _ => exact ⟨cell_lit _ _ _ _ _ rfl, cell_lit _ _ _ _ _ rfl, cell_lit _ _ _ _ _ rfl⟩
  | 1, _ => exact ⟨cell_lit _ _ _ _ _ rfl, cell_lit _ _ _ _ _ rfl, cell_lit _ _ _ _ _ rfl⟩
theorem cns_new3 (w : World) (c d x : Cn) : CnsAt (w.alloc (.cells #[.int .i64 c.1, .int .i64 c.2.1, .int .i64 c.2.2, .int .i64 d.1, .int .i64 d.2.1, .int .i64 d.2.2, .int .i64 x.1, .int .i64 x.2.1, .int .i64 x.2.2] 23)) (some ⟨w.heap.size, 0, none⟩) 3 3 [c, d, x] := by
  refine ⟨rfl, Nat.le_refl _, by unfold maxLen; omega, fun _ => ⟨w.heap.size, 0, rfl, box_lt _ _, fun j hj => ?_⟩, fun h => (by cases h)⟩
  have hj : j < 3 := hj
  match j, hj with
  | 0, _ => exact ⟨cell_lit _ _ _ _ _ rfl, cell_lit _ _ _ _ _ rfl, cell_lit _ _ _ _ _ rfl⟩
  | 1, _ => exact ⟨cell_lit _ _ _ _ _ rfl, cell_lit _ _ _ _ _ rfl, cell_lit _ _ _ _ _ rfl⟩
  | 2, _ => exact ⟨cell_lit _ _ _ _ _ rfl, cell_lit _ _ _ _ _ rfl, cell_lit _ _ _ _ _ rfl⟩
theorem next_k (a b c now r x y z q : Int) (w : World) (hv : nxtV (a, b, c) now r = (x, y, z)) (he : nxtE (a, b, c) now r = q) :
    Calls Tryd.prog 21 #[.agg #[.int .i64 a, .int .i64 b, .int .i64 c], .int .i64 now, .int .i64 r] w fun e w' => e = .returned (.tuple #[.agg #[.int .i64 x, .int .i64 y, .int .i64 z], .int .i64 q]) ∧ Below w.heap.size w w' := by
  have := next_s (a, b, c) now r w
  rw [hv, he] at this
  exact this
theorem parse_k (s : ByteArray) (x y z q : Int) (w : World) (hs : s.size ≤ 1000000) (ho : MaxOk w) (hv : parVC s.data.toList = (x, y, z)) (he : parEC s.data.toList = q) :
    Calls Tryd.prog 16 #[.string s] w fun e w' => e = .returned (.tuple #[.agg #[.int .i64 x, .int .i64 y, .int .i64 z], .int .i64 q]) ∧ Below w.heap.size w w' := by
  have := parse_s s w hs ho
  rw [hv, he] at this
  exact this
theorem format_k (a b c : Int) (t : ByteArray) (w : World) (ho : TzOk w) (ht : fmtS (a, b, c) = t) :
    Calls Tryd.prog 18 #[.agg #[.int .i64 a, .int .i64 b, .int .i64 c]] w fun e w' => e = .returned (.string t) ∧ Below w.heap.size w w' := by
  subst ht; exact format_s (a, b, c) w ho
theorem join_k (ao bo : Option Addr) (n m cap dap : Nat) (l k r : List Cn) (w : World) (h : CnsAt w ao n cap l) (hk : CnsAt w bo m dap k) (hn : n ≤ 400000) (hm : m ≤ 400000) (hr : joinC l k = r) :
    Calls Tryd.prog 32 #[.slice ao n cap, .slice bo m dap] w fun e w' => ∃ xo q xc, e = .returned (.slice xo q xc) ∧ CnsAt w' xo q xc r ∧ Below w.heap.size w w' := by
  subst hr; exact join_s ao bo n m cap dap l k w h hk hn hm
theorem note_k (ao : Option Addr) (n cap : Nat) (l : List Cn) (a b c : Int) (r : List Cn) (w : World) (h : CnsAt w ao n cap l) (hn : n ≤ 400000) (hr : noteC l (a, b, c) = r) :
    Calls Tryd.prog 27 #[.slice ao n cap, .agg #[.int .i64 a, .int .i64 b, .int .i64 c]] w fun e w' => ∃ xo q xc, e = .returned (.slice xo q xc) ∧ CnsAt w' xo q xc r ∧ Below w.heap.size w w' := by
  subst hr; exact note_s ao n cap l (a, b, c) w h hn
theorem same_k (ao bo : Option Addr) (n m cap dap : Nat) (ps qs : List Cn) (r : Bool) (w : World) (h : CnsAt w ao n cap ps) (k : CnsAt w bo m dap qs) (hr : decide (ps = qs) = r) :
    Calls Tryd.prog 30 #[.slice ao n cap, .slice bo m dap] w fun e w' => e = .returned (.bool r) ∧ Below w.heap.size w w' := by
  subst hr; exact same_s ao bo n m cap dap ps qs w h k
theorem check_k (ao : Option Addr) (n cap : Nat) (l : List Cn) (x : Int) (w : World) (h : CnsAt w ao n cap l) (hx : chkC l = x) :
    Calls Tryd.prog 25 #[.slice ao n cap] w fun e w' => e = .returned (.int .i64 x) ∧ Below w.heap.size w w' := by
  subst hx; exact check_s ao n cap l w h
theorem covers_k (ao : Option Addr) (n cap : Nat) (l : List Cn) (a b c : Int) (r : Bool) (w : World) (h : CnsAt w ao n cap l) (hr : covC l (a, b, c) = r) :
    Calls Tryd.prog 28 #[.slice ao n cap, .agg #[.int .i64 a, .int .i64 b, .int .i64 c]] w fun e w' => e = .returned (.bool r) ∧ Below w.heap.size w w' := by
  subst hr; exact covers_s ao n cap l (a, b, c) w h
theorem within_k (ao bo : Option Addr) (n m cap dap : Nat) (l k : List Cn) (r : Bool) (w : World) (h : CnsAt w ao n cap l) (hk : CnsAt w bo m dap k) (hr : witC l k = r) :
    Calls Tryd.prog 34 #[.slice ao n cap, .slice bo m dap] w fun e w' => e = .returned (.bool r) ∧ Below w.heap.size w w' := by
  subst hr; exact within_s ao bo n m cap dap l k w h hk
def WOk (w : World) : Prop := MaxOk w ∧ TzOk w
theorem WOk.below {w w' : World} (h : WOk w) (hb : Below w.heap.size w w') : WOk w' := ⟨h.1.below hb h.1.lt, h.2.below hb⟩
/-- what the examples leave behind: three boxes and the joined vector -/
structure BgC (w : World) (b1 b5 b7 : Nat) (vo : Option Addr) (vn vc : Nat) (V : World) : Prop where
  low : Below w.heap.size w V
  b1 : KbC V b1 (.cells #[.int .i64 5, .int .i64 17, .int .i64 2] 23)
  b5 : KbC V b5 (.cells #[.int .i64 5, .int .i64 18, .int .i64 1] 23)
  b7 : KbC V b7 (.cells #[.int .i64 9, .int .i64 0, .int .i64 1] 23)
  v : CnsAt V vo vn vc [(4, 1, 0), (2, 0, 1), (5, 0, 2)]
theorem BgC.step {w V X : World} {b1 b5 b7 : Nat} {vo : Option Addr} {vn vc : Nat} (h : BgC w b1 b5 b7 vo vn vc V) (hb : Below V.heap.size V X) : BgC w b1 b5 b7 vo vn vc X :=
  ⟨h.low.trans (hb.mono h.low.size), h.b1.step hb, h.b5.step hb, h.b7.step hb, h.v.below hb⟩
set_option maxHeartbeats 16000000 in
theorem live_s (w : World) (ho : WOk w) :
    Calls Tryd.prog 15 #[] w fun e w' => e = .returned (.bool true) ∧ Below w.heap.size w w' := by
  have HO := Lib.hid ho
  clear ho
  have HB := Lib.hid (Below.refl w.heap.size w)
  have HPa := Lib.hid (fun W h => parse_k ⟨#[48, 48, 48, 48, 48, 48, 48, 48, 48, 48, 53, 45, 48, 48, 48, 48, 48, 48, 49, 49, 45, 50]⟩ 5 17 2 0 W (by decide) h (by decide +kernel) (by decide +kernel))
  have HPb := Lib.hid (fun W h => parse_k ⟨#[48, 48, 48, 48, 48, 48, 48, 48, 48, 48, 53, 45, 48, 48, 48, 48, 48, 48, 49, 49, 45, 57]⟩ 0 0 0 27 W (by decide) h (by decide +kernel) (by decide +kernel))
  have HFm := Lib.hid (fun W h => format_k 5 17 2 ⟨#[48, 48, 48, 48, 48, 48, 48, 48, 48, 48, 53, 45, 48, 48, 48, 48, 48, 48, 49, 49, 45, 50]⟩ W h (by decide +kernel))
  go_enter Tryd.func15, Tryd.ntmps15
  go_wp2_with fail
  refine (HPa.out w HO.out.1).mono ?_
  rintro e w1 ⟨rfl, hb⟩
  have HB := Lib.hid (HB.out.trans (hb.mono HB.out.size))
  clear hb
  have hbl := box_below w1 (.cells #[.int .i64 5, .int .i64 17, .int .i64 2] 23)
  have HB := Lib.hid (HB.out.trans (hbl.mono HB.out.size))
  clear hbl
  have HX1 : Hid (KbC (w1.alloc (.cells #[.int .i64 5, .int .i64 17, .int .i64 2] 23)) w1.heap.size (.cells #[.int .i64 5, .int .i64 17, .int .i64 2] 23)) := Lib.hid (kbc_new _ _)
  go_wp2_with fail
  generalize w1.alloc (.cells #[.int .i64 5, .int .i64 17, .int .i64 2] 23) = w2 at HB HX1 ⊢
  refine (HPb.out _ (HO.out.1.below HB.out HO.out.1.lt)).mono ?_
  rintro e w3 ⟨rfl, hb⟩
  have HB := Lib.hid (HB.out.trans (hb.mono HB.out.size))
  have HX1 := Lib.hid (HX1.out.step hb)
  clear hb
  have hbl := box_below w3 (.cells #[.int .i64 0, .int .i64 0, .int .i64 0] 23)
  have HB := Lib.hid (HB.out.trans (hbl.mono HB.out.size))
  have HX1 := Lib.hid (HX1.out.step hbl)
  clear hbl
  have HX2 : Hid (KbC (w3.alloc (.cells #[.int .i64 0, .int .i64 0, .int .i64 0] 23)) w3.heap.size (.cells #[.int .i64 0, .int .i64 0, .int .i64 0] 23)) := Lib.hid (kbc_new _ _)
  go_wp2_with fail
  generalize w3.alloc (.cells #[.int .i64 0, .int .i64 0, .int .i64 0] 23) = w4 at HB HX1 HX2 ⊢
  refine (at_s 5 17 2 _).mono ?_
  rintro e w5 ⟨rfl, hb⟩
  have HB := Lib.hid (HB.out.trans (hb.mono HB.out.size))
  have HX1 := Lib.hid (HX1.out.step hb)
  have HX2 := Lib.hid (HX2.out.step hb)
  clear hb
  go_wp2_with fail
  refine (next_k 5 17 2 4 1 5 18 1 0 _ (by decide +kernel) (by decide +kernel)).mono ?_
  rintro e w6 ⟨rfl, hb⟩
  have HB := Lib.hid (HB.out.trans (hb.mono HB.out.size))
  have HX1 := Lib.hid (HX1.out.step hb)
  have HX2 := Lib.hid (HX2.out.step hb)
  clear hb
  have hbl := box_below w6 (.cells #[.int .i64 5, .int .i64 18, .int .i64 1] 23)
  have HB := Lib.hid (HB.out.trans (hbl.mono HB.out.size))
  have HX1 := Lib.hid (HX1.out.step hbl)
  have HX2 := Lib.hid (HX2.out.step hbl)
  clear hbl
  have HX3 : Hid (KbC (w6.alloc (.cells #[.int .i64 5, .int .i64 18, .int .i64 1] 23)) w6.heap.size (.cells #[.int .i64 5, .int .i64 18, .int .i64 1] 23)) := Lib.hid (kbc_new _ _)
  go_wp2_with fail
  generalize w6.alloc (.cells #[.int .i64 5, .int .i64 18, .int .i64 1] 23) = w7 at HB HX1 HX2 HX3 ⊢
  refine (at_s 5 17 2 _).mono ?_
  rintro e w8 ⟨rfl, hb⟩
  have HB := Lib.hid (HB.out.trans (hb.mono HB.out.size))
  have HX1 := Lib.hid (HX1.out.step hb)
  have HX2 := Lib.hid (HX2.out.step hb)
  have HX3 := Lib.hid (HX3.out.step hb)
  clear hb
  go_wp2_with fail
  refine (next_k 5 17 2 9 1 9 0 1 0 _ (by decide +kernel) (by decide +kernel)).mono ?_
  rintro e w9 ⟨rfl, hb⟩
  have HB := Lib.hid (HB.out.trans (hb.mono HB.out.size))
  have HX1 := Lib.hid (HX1.out.step hb)
  have HX2 := Lib.hid (HX2.out.step hb)
  have HX3 := Lib.hid (HX3.out.step hb)
  clear hb
  have hbl := box_below w9 (.cells #[.int .i64 9, .int .i64 0, .int .i64 1] 23)
  have HB := Lib.hid (HB.out.trans (hbl.mono HB.out.size))
  have HX1 := Lib.hid (HX1.out.step hbl)
  have HX2 := Lib.hid (HX2.out.step hbl)
  have HX3 := Lib.hid (HX3.out.step hbl)
  clear hbl
  have HX4 : Hid (KbC (w9.alloc (.cells #[.int .i64 9, .int .i64 0, .int .i64 1] 23)) w9.heap.size (.cells #[.int .i64 9, .int .i64 0, .int .i64 1] 23)) := Lib.hid (kbc_new _ _)
  go_wp2_with fail
  generalize w9.alloc (.cells #[.int .i64 9, .int .i64 0, .int .i64 1] 23) = w10 at HB HX1 HX2 HX3 HX4 ⊢
  refine (at_s 1 0 0 _).mono ?_
  rintro e w11 ⟨rfl, hb⟩
  have HB := Lib.hid (HB.out.trans (hb.mono HB.out.size))
  have HX1 := Lib.hid (HX1.out.step hb)
  have HX2 := Lib.hid (HX2.out.step hb)
  have HX3 := Lib.hid (HX3.out.step hb)
  have HX4 := Lib.hid (HX4.out.step hb)
  clear hb
  go_wp2_with fail
  refine (at_s 5 0 2 _).mono ?_
  rintro e w12 ⟨rfl, hb⟩
  have HB := Lib.hid (HB.out.trans (hb.mono HB.out.size))
  have HX1 := Lib.hid (HX1.out.step hb)
  have HX2 := Lib.hid (HX2.out.step hb)
  have HX3 := Lib.hid (HX3.out.step hb)
  have HX4 := Lib.hid (HX4.out.step hb)
  clear hb
  have hbl := box_below w12 (.cells #[.int .i64 1, .int .i64 0, .int .i64 0, .int .i64 5, .int .i64 0, .int .i64 2] 23)
  have HB := Lib.hid (HB.out.trans (hbl.mono HB.out.size))
  have HX1 := Lib.hid (HX1.out.step hbl)
  have HX2 := Lib.hid (HX2.out.step hbl)
  have HX3 := Lib.hid (HX3.out.step hbl)
  have HX4 := Lib.hid (HX4.out.step hbl)
  clear hbl
  have HS1 : Hid (CnsAt (w12.alloc (.cells #[.int .i64 1, .int .i64 0, .int .i64 0, .int .i64 5, .int .i64 0, .int .i64 2] 23)) (some ⟨w12.heap.size, 0, none⟩) 2 2 [(1, 0, 0), (5, 0, 2)]) := Lib.hid (cns_new2 w12 (1, 0, 0) (5, 0, 2))
  go_wp2_with fail
  generalize w12.alloc (.cells #[.int .i64 1, .int .i64 0, .int .i64 0, .int .i64 5, .int .i64 0, .int .i64 2] 23) = w13 at HB HX1 HX2 HX3 HX4 HS1 ⊢
  refine (at_s 4 1 0 _).mono ?_
  rintro e w14 ⟨rfl, hb⟩
  have HB := Lib.hid (HB.out.trans (hb.mono HB.out.size))
  have HX1 := Lib.hid (HX1.out.step hb)
  have HX2 := Lib.hid (HX2.out.step hb)
  have HX3 := Lib.hid (HX3.out.step hb)
  have HX4 := Lib.hid (HX4.out.step hb)
  have HS1 := Lib.hid (HS1.out.below hb)
  clear hb
  go_wp2_with fail
  refine (at_s 2 0 1 _).mono ?_
  rintro e w15 ⟨rfl, hb⟩
  have HB := Lib.hid (HB.out.trans (hb.mono HB.out.size))
  have HX1 := Lib.hid (HX1.out.step hb)
  have HX2 := Lib.hid (HX2.out.step hb)
  have HX3 := Lib.hid (HX3.out.step hb)
  have HX4 := Lib.hid (HX4.out.step hb)
  have HS1 := Lib.hid (HS1.out.below hb)
  clear hb
  have hbl := box_below w15 (.cells #[.int .i64 4, .int .i64 1, .int .i64 0, .int .i64 2, .int .i64 0, .int .i64 1] 23)
  have HB := Lib.hid (HB.out.trans (hbl.mono HB.out.size))
  have HX1 := Lib.hid (HX1.out.step hbl)
  have HX2 := Lib.hid (HX2.out.step hbl)
  have HX3 := Lib.hid (HX3.out.step hbl)
  have HX4 := Lib.hid (HX4.out.step hbl)
  have HS1 := Lib.hid (HS1.out.below hbl)
  clear hbl
  have HS2 : Hid (CnsAt (w15.alloc (.cells #[.int .i64 4, .int .i64 1, .int .i64 0, .int .i64 2, .int .i64 0, .int .i64 1] 23)) (some ⟨w15.heap.size, 0, none⟩) 2 2 [(4, 1, 0), (2, 0, 1)]) := Lib.hid (cns_new2 w15 (4, 1, 0) (2, 0, 1))
  go_wp2_with fail
  generalize w15.alloc (.cells #[.int .i64 4, .int .i64 1, .int .i64 0, .int .i64 2, .int .i64 0, .int .i64 1] 23) = w16 at HB HX1 HX2 HX3 HX4 HS1 HS2 ⊢
  refine (join_k _ _ 2 2 2 2 _ _ [(4, 1, 0), (2, 0, 1), (5, 0, 2)] _ HS1.out HS2.out (by omega) (by omega) (by decide +kernel)).mono ?_
  rintro e w17 ⟨vo, vn, vc, rfl, hv, hb⟩
  have HV := Lib.hid hv
  clear hv
  have HB := Lib.hid (HB.out.trans (hb.mono HB.out.size))
  have HX1 := Lib.hid (HX1.out.step hb)
  have HX2 := Lib.hid (HX2.out.step hb)
  have HX3 := Lib.hid (HX3.out.step hb)
  have HX4 := Lib.hid (HX4.out.step hb)
  have HS1 := Lib.hid (HS1.out.below hb)
  have HS2 := Lib.hid (HS2.out.below hb)
  clear hb
  have ld0 : w17.cell? ⟨w1.heap.size, 0, none⟩ = some (.int .i64 5) := HX1.out.cell rfl
  have ld1 : w17.cell? ⟨w1.heap.size, 1, none⟩ = some (.int .i64 17) := HX1.out.cell rfl
  have ld2 : w17.cell? ⟨w1.heap.size, 2, none⟩ = some (.int .i64 2) := HX1.out.cell rfl
  go_wp2_with fail
  clear HS1 HS2 HX2
  clear ld0 ld1 ld2
  have HKp : Hid (BgC w w1.heap.size w6.heap.size w9.heap.size vo vn vc w17) := Lib.hid ⟨HB.out, HX1.out, HX3.out, HX4.out, HV.out⟩
  clear HX1 HX3 HX4 HB HV
  have HSt := Lib.hid (show ∀ V : World, BgC w w1.heap.size w6.heap.size w9.heap.size vo vn vc V → (fun V => V.cell? ⟨w1.heap.size, 0, none⟩ = some (.int .i64 5) ∧ V.cell? ⟨w1.heap.size, 1, none⟩ = some (.int .i64 17) ∧ V.cell? ⟨w1.heap.size, 2, none⟩ = some (.int .i64 2) ∧ V.cell? ⟨w6.heap.size, 0, none⟩ = some (.int .i64 5) ∧ V.cell? ⟨w6.heap.size, 1, none⟩ = some (.int .i64 18) ∧ V.cell? ⟨w6.heap.size, 2, none⟩ = some (.int .i64 1) ∧ V.cell? ⟨w9.heap.size, 0, none⟩ = some (.int .i64 9) ∧ V.cell? ⟨w9.heap.size, 1, none⟩ = some (.int .i64 0) ∧ V.cell? ⟨w9.heap.size, 2, none⟩ = some (.int .i64 1) ∧ Hid (BgC w w1.heap.size w6.heap.size w9.heap.size vo vn vc V)) V from fun V h => ⟨h.b1.cell rfl, h.b1.cell rfl, h.b1.cell rfl, h.b5.cell rfl, h.b5.cell rfl, h.b5.cell rfl, h.b7.cell rfl, h.b7.cell rfl, h.b7.cell rfl, Lib.hid h⟩)
  have S0 := HSt.out _ (HKp.out.step (Below.refl _ _).drew)
  have HKp := Lib.hid (HKp.out.step (Below.refl _ _).drew)
  refine wp_region_held_drew (S := fun V => V.cell? ⟨w1.heap.size, 0, none⟩ = some (.int .i64 5) ∧ V.cell? ⟨w1.heap.size, 1, none⟩ = some (.int .i64 17) ∧ V.cell? ⟨w1.heap.size, 2, none⟩ = some (.int .i64 2) ∧ V.cell? ⟨w6.heap.size, 0, none⟩ = some (.int .i64 5) ∧ V.cell? ⟨w6.heap.size, 1, none⟩ = some (.int .i64 18) ∧ V.cell? ⟨w6.heap.size, 2, none⟩ = some (.int .i64 1) ∧ V.cell? ⟨w9.heap.size, 0, none⟩ = some (.int .i64 9) ∧ V.cell? ⟨w9.heap.size, 1, none⟩ = some (.int .i64 0) ∧ V.cell? ⟨w9.heap.size, 2, none⟩ = some (.int .i64 1) ∧ Hid (BgC w w1.heap.size w6.heap.size w9.heap.size vo vn vc V)) (by kernel_rfl) (S0) (fun hS => ?_)
  refine wpAnyH_take (i := 0) (oi := { dst := some 35, op := _, type := _, pos := _, after := _, guard := _ }) (v := ?_) rfl (by kernel_rfl) (by kernel_rfl) (by kernel_rfl) (fun _ _ _ h => h) (Or.inl ⟨by rfl, ?_⟩) (by assumption) ?_
  rotate_left
  · intro w hSw
    try dsimp only at hSw
    go_simp
    try with_reducible rfl
  try simp only [Act.put, List.setIfInBounds_toArray, List.set_cons_zero, List.set_cons_succ]
  refine wpAnyH_ready (rs := [1]) (by kernel_rfl) (by simp) ?_
  refine AllReadyH.cons rfl (fun K hK => ?_) AllReadyH.nil
  go_simp
  refine (at_s 5 17 2 _).mono ?_
  rintro e v1 ⟨rfl, hb⟩
  have HKp := Lib.hid (HKp.out.step hb)
  clear hb
  go_wp2_with fail
  refine hK.out _ _ ?_ (fun hHeld => ?_)
  · exact HSt.out _ HKp.out
  clear hK K
  try simp only [Act.put, List.setIfInBounds_toArray, List.set_cons_zero, List.set_cons_succ]
  refine wpAnyH_take (i := 2) (oi := { dst := some 37, op := _, type := _, pos := _, after := _, guard := _ }) (v := ?_) rfl (by kernel_rfl) (by kernel_rfl) (by kernel_rfl) (fun _ _ _ h => h) (Or.inl ⟨by rfl, ?_⟩) (by assumption) ?_
  rotate_left
  · intro w hSw
    try dsimp only at hSw
    go_simp
    try with_reducible rfl
  try simp only [Act.put, List.setIfInBounds_toArray, List.set_cons_zero, List.set_cons_succ]
  refine wpAnyH_take (i := 3) (oi := { dst := some 38, op := _, type := _, pos := _, after := _, guard := _ }) (v := ?_) rfl (by kernel_rfl) (by kernel_rfl) (by kernel_rfl) (fun _ _ _ h => h) (Or.inl ⟨by rfl, ?_⟩) (by assumption) ?_
  rotate_left
  · intro w hSw
    try dsimp only at hSw
    go_simp
    try with_reducible rfl
  try simp only [Act.put, List.setIfInBounds_toArray, List.set_cons_zero, List.set_cons_succ]
  refine wpAnyH_take (i := 4) (oi := { dst := some 39, op := _, type := _, pos := _, after := _, guard := _ }) (v := ?_) rfl (by kernel_rfl) (by kernel_rfl) (by kernel_rfl) (fun _ _ _ h => h) (Or.inl ⟨by rfl, ?_⟩) (by assumption) ?_
  rotate_left
  · intro w hSw
    try dsimp only at hSw
    go_simp
    try with_reducible rfl
  try simp only [Act.put, List.setIfInBounds_toArray, List.set_cons_zero, List.set_cons_succ]
  refine wpAnyH_take (i := 5) (oi := { dst := some 40, op := _, type := _, pos := _, after := _, guard := _ }) (v := ?_) rfl (by kernel_rfl) (by kernel_rfl) (by kernel_rfl) (fun _ _ _ h => h) (Or.inl ⟨by rfl, ?_⟩) (by assumption) ?_
  rotate_left
  · intro w hSw
    try dsimp only at hSw
    go_simp
    try with_reducible rfl
  try simp only [Act.put, List.setIfInBounds_toArray, List.set_cons_zero, List.set_cons_succ]
  refine wpAnyH_take (i := 6) (oi := { dst := some 41, op := _, type := _, pos := _, after := _, guard := _ }) (v := ?_) rfl (by kernel_rfl) (by kernel_rfl) (by kernel_rfl) (fun _ _ _ h => h) (Or.inl ⟨by rfl, ?_⟩) (by assumption) ?_
  rotate_left
  · intro w hSw
    try dsimp only at hSw
    go_simp
    try with_reducible rfl
  try simp only [Act.put, List.setIfInBounds_toArray, List.set_cons_zero, List.set_cons_succ]
  refine wpAnyH_take (i := 7) (oi := { dst := some 42, op := _, type := _, pos := _, after := _, guard := _ }) (v := ?_) rfl (by kernel_rfl) (by kernel_rfl) (by kernel_rfl) (fun _ _ _ h => h) (Or.inl ⟨by rfl, ?_⟩) (by assumption) ?_
  rotate_left
  · intro w hSw
    try dsimp only at hSw
    go_simp
    try with_reducible rfl
  try simp only [Act.put, List.setIfInBounds_toArray, List.set_cons_zero, List.set_cons_succ]
  refine wpAnyH_take (i := 8) (oi := { dst := some 43, op := _, type := _, pos := _, after := _, guard := _ }) (v := ?_) rfl (by kernel_rfl) (by kernel_rfl) (by kernel_rfl) (fun _ _ _ h => h) (Or.inl ⟨by rfl, ?_⟩) (by assumption) ?_
  rotate_left
  · intro w hSw
    try dsimp only at hSw
    go_simp
    try with_reducible rfl
  try simp only [Act.put, List.setIfInBounds_toArray, List.set_cons_zero, List.set_cons_succ]
  refine wpAnyH_take (i := 9) (oi := { dst := some 44, op := _, type := _, pos := _, after := _, guard := _ }) (v := ?_) rfl (by kernel_rfl) (by kernel_rfl) (by kernel_rfl) (fun _ _ _ h => h) (Or.inl ⟨by rfl, ?_⟩) (by assumption) ?_
  rotate_left
  · intro w hSw
    try dsimp only at hSw
    go_simp
    try with_reducible rfl
  try simp only [Act.put, List.setIfInBounds_toArray, List.set_cons_zero, List.set_cons_succ]
  refine wpAnyH_take (i := 10) (oi := { dst := some 45, op := _, type := _, pos := _, after := _, guard := _ }) (v := ?_) rfl (by kernel_rfl) (by kernel_rfl) (by kernel_rfl) (fun _ _ _ h => h) (Or.inl ⟨by rfl, ?_⟩) (by assumption) ?_
  rotate_left
  · intro w hSw
    try dsimp only at hSw
    go_simp
    try with_reducible rfl
  try simp only [Act.put, List.setIfInBounds_toArray, List.set_cons_zero, List.set_cons_succ]
  refine wpAnyH_take (i := 11) (oi := { dst := some 46, op := _, type := _, pos := _, after := _, guard := _ }) (v := ?_) rfl (by kernel_rfl) (by kernel_rfl) (by kernel_rfl) (fun _ _ _ h => h) (Or.inl ⟨by rfl, ?_⟩) (by assumption) ?_
  rotate_left
  · intro w hSw
    try dsimp only at hSw
    go_simp
    try with_reducible rfl
  try simp only [Act.put, List.setIfInBounds_toArray, List.set_cons_zero, List.set_cons_succ]
  refine wpAnyH_take (i := 12) (oi := { dst := some 47, op := _, type := _, pos := _, after := _, guard := _ }) (v := ?_) rfl (by kernel_rfl) (by kernel_rfl) (by kernel_rfl) (fun _ _ _ h => h) (Or.inl ⟨by rfl, ?_⟩) (by assumption) ?_
  rotate_left
  · intro w hSw
    try dsimp only at hSw
    go_simp
    try with_reducible rfl
  try simp only [Act.put, List.setIfInBounds_toArray, List.set_cons_zero, List.set_cons_succ]
  refine wpAnyH_ready (rs := [13]) (by kernel_rfl) (by simp) ?_
  refine AllReadyH.cons rfl (fun K hK => ?_) AllReadyH.nil
  go_simp
  refine (at_s 5 18 1 _).mono ?_
  rintro e v2 ⟨rfl, hb⟩
  have HKp := Lib.hid (HKp.out.step hb)
  clear hb
  go_wp2_with fail
  refine hK.out _ _ ?_ (fun hHeld => ?_)
  · exact HSt.out _ HKp.out
  clear hK K
  try simp only [Act.put, List.setIfInBounds_toArray, List.set_cons_zero, List.set_cons_succ]
  refine wpAnyH_take (i := 14) (oi := { dst := some 49, op := _, type := _, pos := _, after := _, guard := _ }) (v := ?_) rfl (by kernel_rfl) (by kernel_rfl) (by kernel_rfl) (fun _ _ _ h => h) (Or.inl ⟨by rfl, ?_⟩) (by assumption) ?_
  rotate_left
  · intro w hSw
    try dsimp only at hSw
    go_simp
    try with_reducible rfl
  try simp only [Act.put, List.setIfInBounds_toArray, List.set_cons_zero, List.set_cons_succ]
  refine wpAnyH_take (i := 15) (oi := { dst := some 50, op := _, type := _, pos := _, after := _, guard := _ }) (v := ?_) rfl (by kernel_rfl) (by kernel_rfl) (by kernel_rfl) (fun _ _ _ h => h) (Or.inl ⟨by rfl, ?_⟩) (by assumption) ?_
  rotate_left
  · intro w hSw
    try dsimp only at hSw
    go_simp
    try with_reducible rfl
  try simp only [Act.put, List.setIfInBounds_toArray, List.set_cons_zero, List.set_cons_succ]
  refine wpAnyH_take (i := 16) (oi := { dst := some 51, op := _, type := _, pos := _, after := _, guard := _ }) (v := ?_) rfl (by kernel_rfl) (by kernel_rfl) (by kernel_rfl) (fun _ _ _ h => h) (Or.inl ⟨by rfl, ?_⟩) (by assumption) ?_
  rotate_left
  · intro w hSw
    try dsimp only at hSw
    go_simp
    try with_reducible rfl
  try simp only [Act.put, List.setIfInBounds_toArray, List.set_cons_zero, List.set_cons_succ]
  refine wpAnyH_take (i := 17) (oi := { dst := some 52, op := _, type := _, pos := _, after := _, guard := _ }) (v := ?_) rfl (by kernel_rfl) (by kernel_rfl) (by kernel_rfl) (fun _ _ _ h => h) (Or.inl ⟨by rfl, ?_⟩) (by assumption) ?_
  rotate_left
  · intro w hSw
    try dsimp only at hSw
    go_simp
    try with_reducible rfl
  try simp only [Act.put, List.setIfInBounds_toArray, List.set_cons_zero, List.set_cons_succ]
  refine wpAnyH_take (i := 18) (oi := { dst := some 53, op := _, type := _, pos := _, after := _, guard := _ }) (v := ?_) rfl (by kernel_rfl) (by kernel_rfl) (by kernel_rfl) (fun _ _ _ h => h) (Or.inl ⟨by rfl, ?_⟩) (by assumption) ?_
  rotate_left
  · intro w hSw
    try dsimp only at hSw
    go_simp
    try with_reducible rfl
  try simp only [Act.put, List.setIfInBounds_toArray, List.set_cons_zero, List.set_cons_succ]
  refine wpAnyH_take (i := 19) (oi := { dst := some 54, op := _, type := _, pos := _, after := _, guard := _ }) (v := ?_) rfl (by kernel_rfl) (by kernel_rfl) (by kernel_rfl) (fun _ _ _ h => h) (Or.inl ⟨by rfl, ?_⟩) (by assumption) ?_
  rotate_left
  · intro w hSw
    try dsimp only at hSw
    go_simp
    try with_reducible rfl
  try simp only [Act.put, List.setIfInBounds_toArray, List.set_cons_zero, List.set_cons_succ]
  refine wpAnyH_take (i := 20) (oi := { dst := some 55, op := _, type := _, pos := _, after := _, guard := _ }) (v := ?_) rfl (by kernel_rfl) (by kernel_rfl) (by kernel_rfl) (fun _ _ _ h => h) (Or.inl ⟨by rfl, ?_⟩) (by assumption) ?_
  rotate_left
  · intro w hSw
    try dsimp only at hSw
    go_simp
    try with_reducible rfl
  try simp only [Act.put, List.setIfInBounds_toArray, List.set_cons_zero, List.set_cons_succ]
  refine wpAnyH_take (i := 21) (oi := { dst := some 56, op := _, type := _, pos := _, after := _, guard := _ }) (v := ?_) rfl (by kernel_rfl) (by kernel_rfl) (by kernel_rfl) (fun _ _ _ h => h) (Or.inl ⟨by rfl, ?_⟩) (by assumption) ?_
  rotate_left
  · intro w hSw
    try dsimp only at hSw
    go_simp
    try with_reducible rfl
  try simp only [Act.put, List.setIfInBounds_toArray, List.set_cons_zero, List.set_cons_succ]
  refine wpAnyH_ready (rs := [22]) (by kernel_rfl) (by simp) ?_
  refine AllReadyH.cons rfl (fun K hK => ?_) AllReadyH.nil
  go_simp
  refine (at_s 9 0 1 _).mono ?_
  rintro e v3 ⟨rfl, hb⟩
  have HKp := Lib.hid (HKp.out.step hb)
  clear hb
  go_wp2_with fail
  refine hK.out _ _ ?_ (fun hHeld => ?_)
  · exact HSt.out _ HKp.out
  clear hK K
  try simp only [Act.put, List.setIfInBounds_toArray, List.set_cons_zero, List.set_cons_succ]
  refine wpAnyH_take (i := 23) (oi := { dst := some 58, op := _, type := _, pos := _, after := _, guard := _ }) (v := ?_) rfl (by kernel_rfl) (by kernel_rfl) (by kernel_rfl) (fun _ _ _ h => h) (Or.inl ⟨by rfl, ?_⟩) (by assumption) ?_
  rotate_left
  · intro w hSw
    try dsimp only at hSw
    go_simp
    try with_reducible rfl
  try simp only [Act.put, List.setIfInBounds_toArray, List.set_cons_zero, List.set_cons_succ]
  refine wpAnyH_take (i := 24) (oi := { dst := some 59, op := _, type := _, pos := _, after := _, guard := _ }) (v := ?_) rfl (by kernel_rfl) (by kernel_rfl) (by kernel_rfl) (fun _ _ _ h => h) (Or.inl ⟨by rfl, ?_⟩) (by assumption) ?_
  rotate_left
  · intro w hSw
    try dsimp only at hSw
    go_simp
    try with_reducible rfl
  try simp only [Act.put, List.setIfInBounds_toArray, List.set_cons_zero, List.set_cons_succ]
  refine wpAnyH_take (i := 25) (oi := { dst := some 60, op := _, type := _, pos := _, after := _, guard := _ }) (v := ?_) rfl (by kernel_rfl) (by kernel_rfl) (by kernel_rfl) (fun _ _ _ h => h) (Or.inl ⟨by rfl, ?_⟩) (by assumption) ?_
  rotate_left
  · intro w hSw
    try dsimp only at hSw
    go_simp
    try with_reducible rfl
  try simp only [Act.put, List.setIfInBounds_toArray, List.set_cons_zero, List.set_cons_succ]
  refine wpAnyH_take (i := 26) (oi := { dst := some 61, op := _, type := _, pos := _, after := _, guard := _ }) (v := ?_) rfl (by kernel_rfl) (by kernel_rfl) (by kernel_rfl) (fun _ _ _ h => h) (Or.inl ⟨by rfl, ?_⟩) (by assumption) ?_
  rotate_left
  · intro w hSw
    try dsimp only at hSw
    go_simp
    try with_reducible rfl
  try simp only [Act.put, List.setIfInBounds_toArray, List.set_cons_zero, List.set_cons_succ]
  refine wpAnyH_take (i := 27) (oi := { dst := some 62, op := _, type := _, pos := _, after := _, guard := _ }) (v := ?_) rfl (by kernel_rfl) (by kernel_rfl) (by kernel_rfl) (fun _ _ _ h => h) (Or.inl ⟨by rfl, ?_⟩) (by assumption) ?_
  rotate_left
  · intro w hSw
    try dsimp only at hSw
    go_simp
    try with_reducible rfl
  try simp only [Act.put, List.setIfInBounds_toArray, List.set_cons_zero, List.set_cons_succ]
  refine wpAnyH_take (i := 28) (oi := { dst := some 63, op := _, type := _, pos := _, after := _, guard := _ }) (v := ?_) rfl (by kernel_rfl) (by kernel_rfl) (by kernel_rfl) (fun _ _ _ h => h) (Or.inl ⟨by rfl, ?_⟩) (by assumption) ?_
  rotate_left
  · intro w hSw
    try dsimp only at hSw
    go_simp
    try with_reducible rfl
  try simp only [Act.put, List.setIfInBounds_toArray, List.set_cons_zero, List.set_cons_succ]
  refine wpAnyH_take (i := 29) (oi := { dst := some 64, op := _, type := _, pos := _, after := _, guard := _ }) (v := ?_) rfl (by kernel_rfl) (by kernel_rfl) (by kernel_rfl) (fun _ _ _ h => h) (Or.inl ⟨by rfl, ?_⟩) (by assumption) ?_
  rotate_left
  · intro w hSw
    try dsimp only at hSw
    go_simp
    try with_reducible rfl
  try simp only [Act.put, List.setIfInBounds_toArray, List.set_cons_zero, List.set_cons_succ]
  refine wpAnyH_ready (rs := [30]) (by kernel_rfl) (by simp) ?_
  refine AllReadyH.cons rfl (fun K hK => ?_) AllReadyH.nil
  go_simp
  refine (at_s 5 17 2 _).mono ?_
  rintro e v4 ⟨rfl, hb⟩
  have HKp := Lib.hid (HKp.out.step hb)
  clear hb
  go_wp2_with fail
  refine hK.out _ _ ?_ (fun hHeld => ?_)
  · exact HSt.out _ HKp.out
  clear hK K
  try simp only [Act.put, List.setIfInBounds_toArray, List.set_cons_zero, List.set_cons_succ]
  refine wpAnyH_ready (rs := [31]) (by kernel_rfl) (by simp) ?_
  refine AllReadyH.cons rfl (fun K hK => ?_) AllReadyH.nil
  go_simp
  refine (HFm.out _ (HO.out.2.below HKp.out.low)).mono ?_
  rintro e v5 ⟨rfl, hb⟩
  have HKp := Lib.hid (HKp.out.step hb)
  clear hb
  go_wp2_with fail
  refine hK.out _ _ ?_ (fun hHeld => ?_)
  · exact HSt.out _ HKp.out
  clear hK K
  try simp only [Act.put, List.setIfInBounds_toArray, List.set_cons_zero, List.set_cons_succ]
  refine wpAnyH_take (i := 32) (oi := { dst := some 67, op := _, type := _, pos := _, after := _, guard := _ }) (v := ?_) rfl (by kernel_rfl) (by kernel_rfl) (by kernel_rfl) (fun _ _ _ h => h) (Or.inl ⟨by rfl, ?_⟩) (by assumption) ?_
  rotate_left
  · intro w hSw
    try dsimp only at hSw
    go_simp
    try with_reducible rfl
  try simp only [Act.put, List.setIfInBounds_toArray, List.set_cons_zero, List.set_cons_succ]
  refine wpAnyH_take (i := 33) (oi := { dst := some 68, op := _, type := _, pos := _, after := _, guard := _ }) (v := ?_) rfl (by kernel_rfl) (by kernel_rfl) (by kernel_rfl) (fun _ _ _ h => h) (Or.inl ⟨by rfl, ?_⟩) (by assumption) ?_
  rotate_left
  · intro w hSw
    try dsimp only at hSw
    go_simp
    try with_reducible rfl
  try simp only [Act.put, List.setIfInBounds_toArray, List.set_cons_zero, List.set_cons_succ]
  refine wpAnyH_take (i := 34) (oi := { dst := some 69, op := _, type := _, pos := _, after := _, guard := _ }) (v := ?_) rfl (by kernel_rfl) (by kernel_rfl) (by kernel_rfl) (fun _ _ _ h => h) (Or.inl ⟨by rfl, ?_⟩) (by assumption) ?_
  rotate_left
  · intro w hSw
    try dsimp only at hSw
    go_simp
    try with_reducible rfl
  try simp only [Act.put, List.setIfInBounds_toArray, List.set_cons_zero, List.set_cons_succ]
  refine wpAnyH_take (i := 35) (oi := { dst := some 70, op := _, type := _, pos := _, after := _, guard := _ }) (v := ?_) rfl (by kernel_rfl) (by kernel_rfl) (by kernel_rfl) (fun _ _ _ h => h) (Or.inl ⟨by rfl, ?_⟩) (by assumption) ?_
  rotate_left
  · intro w hSw
    try dsimp only at hSw
    go_simp
    try with_reducible rfl
  try simp only [Act.put, List.setIfInBounds_toArray, List.set_cons_zero, List.set_cons_succ]
  refine wpAnyH_ready (rs := [36]) (by kernel_rfl) (by simp) ?_
  refine AllReadyH.cons rfl (fun K hK => ?_) AllReadyH.nil
  go_simp
  refine (at_s 4 1 0 _).mono ?_
  rintro e v6 ⟨rfl, hb⟩
  have HKp := Lib.hid (HKp.out.step hb)
  clear hb
  go_wp2_with fail
  refine hK.out _ _ ?_ (fun hHeld => ?_)
  · exact HSt.out _ HKp.out
  clear hK K
  try simp only [Act.put, List.setIfInBounds_toArray, List.set_cons_zero, List.set_cons_succ]
  refine wpAnyH_ready (rs := [37]) (by kernel_rfl) (by simp) ?_
  refine AllReadyH.cons rfl (fun K hK => ?_) AllReadyH.nil
  go_simp
  refine (at_s 2 0 1 _).mono ?_
  rintro e v7 ⟨rfl, hb⟩
  have HKp := Lib.hid (HKp.out.step hb)
  clear hb
  go_wp2_with fail
  refine hK.out _ _ ?_ (fun hHeld => ?_)
  · exact HSt.out _ HKp.out
  clear hK K
  try simp only [Act.put, List.setIfInBounds_toArray, List.set_cons_zero, List.set_cons_succ]
  refine wpAnyH_ready (rs := [38]) (by kernel_rfl) (by simp) ?_
  refine AllReadyH.cons rfl (fun K hK => ?_) AllReadyH.nil
  go_simp
  refine (at_s 5 0 2 _).mono ?_
  rintro e v8 ⟨rfl, hb⟩
  have HKp := Lib.hid (HKp.out.step hb)
  clear hb
  go_wp2_with fail
  refine hK.out _ _ ?_ (fun hHeld => ?_)
  · exact HSt.out _ HKp.out
  clear hK K
  try simp only [Act.put, List.setIfInBounds_toArray, List.set_cons_zero, List.set_cons_succ]
  refine wpAnyH_ready (rs := [39]) (by kernel_rfl) (by simp) ?_
  refine AllReadyH.cons rfl (fun K hK => ?_) AllReadyH.nil
  go_simp
  refine hK.out _ _ ?_ (fun hHeld => ?_)
  · exact HSt.out _ (HKp.out.step (box_below _ _))
  clear hK K
  have HKp := Lib.hid (HKp.out.step (box_below v8 (.cells #[.int .i64 4, .int .i64 1, .int .i64 0, .int .i64 2, .int .i64 0, .int .i64 1, .int .i64 5, .int .i64 0, .int .i64 2] 23)))
  have HS3 : Hid (CnsAt (v8.alloc (.cells #[.int .i64 4, .int .i64 1, .int .i64 0, .int .i64 2, .int .i64 0, .int .i64 1, .int .i64 5, .int .i64 0, .int .i64 2] 23)) (some ⟨v8.heap.size, 0, none⟩) 3 3 [(4, 1, 0), (2, 0, 1), (5, 0, 2)]) := Lib.hid (cns_new3 v8 (4, 1, 0) (2, 0, 1) (5, 0, 2))
  try simp only [Act.put, List.setIfInBounds_toArray, List.set_cons_zero, List.set_cons_succ]
  refine wpAnyH_ready (rs := [40]) (by kernel_rfl) (by simp) ?_
  refine AllReadyH.cons rfl (fun K hK => ?_) AllReadyH.nil
  go_simp
  refine (same_k _ _ _ 3 _ 3 _ _ true _ HKp.out.v HS3.out (decide_eq_true rfl)).mono ?_
  rintro e v9 ⟨rfl, hb⟩
  have HKp := Lib.hid (HKp.out.step hb)
  clear hb
  go_wp2_with fail
  refine hK.out _ _ ?_ (fun hHeld => ?_)
  · exact HSt.out _ HKp.out
  clear hK K
  try simp only [Act.put, List.setIfInBounds_toArray, List.set_cons_zero, List.set_cons_succ]
  refine wpAnyH_take (i := 41) (oi := { dst := some 76, op := _, type := _, pos := _, after := _, guard := _ }) (v := ?_) rfl (by kernel_rfl) (by kernel_rfl) (by kernel_rfl) (fun _ _ _ h => h) (Or.inl ⟨by rfl, ?_⟩) (by assumption) ?_
  rotate_left
  · intro w hSw
    try dsimp only at hSw
    go_simp
    try with_reducible rfl
  try simp only [Act.put, List.setIfInBounds_toArray, List.set_cons_zero, List.set_cons_succ]
  refine wpAnyH_take (i := 42) (oi := { dst := some 77, op := _, type := _, pos := _, after := _, guard := _ }) (v := ?_) rfl (by kernel_rfl) (by kernel_rfl) (by kernel_rfl) (fun _ _ _ h => h) (Or.inl ⟨by rfl, ?_⟩) (by assumption) ?_
  rotate_left
  · intro w hSw
    try dsimp only at hSw
    go_simp
    try with_reducible rfl
  try simp only [Act.put, List.setIfInBounds_toArray, List.set_cons_zero, List.set_cons_succ]
  refine wpAnyH_ready (rs := [43]) (by kernel_rfl) (by simp) ?_
  refine AllReadyH.cons rfl (fun K hK => ?_) AllReadyH.nil
  go_simp
  refine (at_s 1 0 2 _).mono ?_
  rintro e v10 ⟨rfl, hb⟩
  have HKp := Lib.hid (HKp.out.step hb)
  clear hb
  go_wp2_with fail
  refine hK.out _ _ ?_ (fun hHeld => ?_)
  · exact HSt.out _ HKp.out
  clear hK K
  try simp only [Act.put, List.setIfInBounds_toArray, List.set_cons_zero, List.set_cons_succ]
  refine wpAnyH_ready (rs := [44]) (by kernel_rfl) (by simp) ?_
  refine AllReadyH.cons rfl (fun K hK => ?_) AllReadyH.nil
  go_simp
  refine (at_s 1 0 0 _).mono ?_
  rintro e v11 ⟨rfl, hb⟩
  have HKp := Lib.hid (HKp.out.step hb)
  clear hb
  go_wp2_with fail
  refine hK.out _ _ ?_ (fun hHeld => ?_)
  · exact HSt.out _ HKp.out
  clear hK K
  try simp only [Act.put, List.setIfInBounds_toArray, List.set_cons_zero, List.set_cons_succ]
  refine wpAnyH_ready (rs := [45]) (by kernel_rfl) (by simp) ?_
  refine AllReadyH.cons rfl (fun K hK => ?_) AllReadyH.nil
  go_simp
  refine hK.out _ _ ?_ (fun hHeld => ?_)
  · exact HSt.out _ (HKp.out.step (box_below _ _))
  clear hK K
  have HKp := Lib.hid (HKp.out.step (box_below v11 (.cells #[.int .i64 1, .int .i64 0, .int .i64 2, .int .i64 1, .int .i64 0, .int .i64 0] 23)))
  have HS4 : Hid (CnsAt (v11.alloc (.cells #[.int .i64 1, .int .i64 0, .int .i64 2, .int .i64 1, .int .i64 0, .int .i64 0] 23)) (some ⟨v11.heap.size, 0, none⟩) 2 2 [(1, 0, 2), (1, 0, 0)]) := Lib.hid (cns_new2 v11 (1, 0, 2) (1, 0, 0))
  try simp only [Act.put, List.setIfInBounds_toArray, List.set_cons_zero, List.set_cons_succ]
  refine wpAnyH_ready (rs := [46]) (by kernel_rfl) (by simp) ?_
  refine AllReadyH.cons rfl (fun K hK => ?_) AllReadyH.nil
  go_simp
  refine (check_k _ 2 2 _ 4 _ HS4.out (by decide +kernel)).mono ?_
  rintro e v12 ⟨rfl, hb⟩
  have HKp := Lib.hid (HKp.out.step hb)
  clear hb
  go_wp2_with fail
  refine hK.out _ _ ?_ (fun hHeld => ?_)
  · exact HSt.out _ HKp.out
  clear hK K
  try simp only [Act.put, List.setIfInBounds_toArray, List.set_cons_zero, List.set_cons_succ]
  refine wpAnyH_take (i := 47) (oi := { dst := some 82, op := _, type := _, pos := _, after := _, guard := _ }) (v := ?_) rfl (by kernel_rfl) (by kernel_rfl) (by kernel_rfl) (fun _ _ _ h => h) (Or.inl ⟨by rfl, ?_⟩) (by assumption) ?_
  rotate_left
  · intro w hSw
    try dsimp only at hSw
    go_simp
    try with_reducible rfl
  try simp only [Act.put, List.setIfInBounds_toArray, List.set_cons_zero, List.set_cons_succ]
  refine wpAnyH_take (i := 48) (oi := { dst := some 83, op := _, type := _, pos := _, after := _, guard := _ }) (v := ?_) rfl (by kernel_rfl) (by kernel_rfl) (by kernel_rfl) (fun _ _ _ h => h) (Or.inl ⟨by rfl, ?_⟩) (by assumption) ?_
  rotate_left
  · intro w hSw
    try dsimp only at hSw
    go_simp
    try with_reducible rfl
  try simp only [Act.put, List.setIfInBounds_toArray, List.set_cons_zero, List.set_cons_succ]
  refine wpAnyH_take (i := 49) (oi := { dst := some 84, op := _, type := _, pos := _, after := _, guard := _ }) (v := ?_) rfl (by kernel_rfl) (by kernel_rfl) (by kernel_rfl) (fun _ _ _ h => h) (Or.inl ⟨by rfl, ?_⟩) (by assumption) ?_
  rotate_left
  · intro w hSw
    try dsimp only at hSw
    go_simp
    try with_reducible rfl
  try simp only [Act.put, List.setIfInBounds_toArray, List.set_cons_zero, List.set_cons_succ]
  refine wpAnyH_ready (rs := [50]) (by kernel_rfl) (by simp) ?_
  refine AllReadyH.cons rfl (fun K hK => ?_) AllReadyH.nil
  go_simp
  refine (at_s 1 0 2 _).mono ?_
  rintro e v13 ⟨rfl, hb⟩
  have HKp := Lib.hid (HKp.out.step hb)
  clear hb
  go_wp2_with fail
  refine hK.out _ _ ?_ (fun hHeld => ?_)
  · exact HSt.out _ HKp.out
  clear hK K
  try simp only [Act.put, List.setIfInBounds_toArray, List.set_cons_zero, List.set_cons_succ]
  refine wpAnyH_ready (rs := [51]) (by kernel_rfl) (by simp) ?_
  refine AllReadyH.cons rfl (fun K hK => ?_) AllReadyH.nil
  go_simp
  refine (at_s 3 0 2 _).mono ?_
  rintro e v14 ⟨rfl, hb⟩
  have HKp := Lib.hid (HKp.out.step hb)
  clear hb
  go_wp2_with fail
  refine hK.out _ _ ?_ (fun hHeld => ?_)
  · exact HSt.out _ HKp.out
  clear hK K
  try simp only [Act.put, List.setIfInBounds_toArray, List.set_cons_zero, List.set_cons_succ]
  refine wpAnyH_ready (rs := [52]) (by kernel_rfl) (by simp) ?_
  refine AllReadyH.cons rfl (fun K hK => ?_) AllReadyH.nil
  go_simp
  refine hK.out _ _ ?_ (fun hHeld => ?_)
  · exact HSt.out _ (HKp.out.step (box_below _ _))
  clear hK K
  have HKp := Lib.hid (HKp.out.step (box_below v14 (.cells #[.int .i64 1, .int .i64 0, .int .i64 2, .int .i64 3, .int .i64 0, .int .i64 2] 23)))
  have HS5 : Hid (CnsAt (v14.alloc (.cells #[.int .i64 1, .int .i64 0, .int .i64 2, .int .i64 3, .int .i64 0, .int .i64 2] 23)) (some ⟨v14.heap.size, 0, none⟩) 2 2 [(1, 0, 2), (3, 0, 2)]) := Lib.hid (cns_new2 v14 (1, 0, 2) (3, 0, 2))
  try simp only [Act.put, List.setIfInBounds_toArray, List.set_cons_zero, List.set_cons_succ]
  refine wpAnyH_ready (rs := [53]) (by kernel_rfl) (by simp) ?_
  refine AllReadyH.cons rfl (fun K hK => ?_) AllReadyH.nil
  go_simp
  refine (check_k _ 2 2 _ 7 _ HS5.out (by decide +kernel)).mono ?_
  rintro e v15 ⟨rfl, hb⟩
  have HKp := Lib.hid (HKp.out.step hb)
  clear hb
  go_wp2_with fail
  refine hK.out _ _ ?_ (fun hHeld => ?_)
  · exact HSt.out _ HKp.out
  clear hK K
  try simp only [Act.put, List.setIfInBounds_toArray, List.set_cons_zero, List.set_cons_succ]
  refine wpAnyH_take (i := 54) (oi := { dst := some 89, op := _, type := _, pos := _, after := _, guard := _ }) (v := ?_) rfl (by kernel_rfl) (by kernel_rfl) (by kernel_rfl) (fun _ _ _ h => h) (Or.inl ⟨by rfl, ?_⟩) (by assumption) ?_
  rotate_left
  · intro w hSw
    try dsimp only at hSw
    go_simp
    try with_reducible rfl
  try simp only [Act.put, List.setIfInBounds_toArray, List.set_cons_zero, List.set_cons_succ]
  refine wpAnyH_take (i := 55) (oi := { dst := some 90, op := _, type := _, pos := _, after := _, guard := _ }) (v := ?_) rfl (by kernel_rfl) (by kernel_rfl) (by kernel_rfl) (fun _ _ _ h => h) (Or.inl ⟨by rfl, ?_⟩) (by assumption) ?_
  rotate_left
  · intro w hSw
    try dsimp only at hSw
    go_simp
    try with_reducible rfl
  try simp only [Act.put, List.setIfInBounds_toArray, List.set_cons_zero, List.set_cons_succ]
  refine wpAnyH_take (i := 56) (oi := { dst := some 91, op := _, type := _, pos := _, after := _, guard := _ }) (v := ?_) rfl (by kernel_rfl) (by kernel_rfl) (by kernel_rfl) (fun _ _ _ h => h) (Or.inl ⟨by rfl, ?_⟩) (by assumption) ?_
  rotate_left
  · intro w hSw
    try dsimp only at hSw
    go_simp
    try with_reducible rfl
  try simp only [Act.put, List.setIfInBounds_toArray, List.set_cons_zero, List.set_cons_succ]
  refine wpAnyH_take (i := 57) (oi := { dst := some 92, op := _, type := _, pos := _, after := _, guard := _ }) (v := ?_) rfl (by kernel_rfl) (by kernel_rfl) (by kernel_rfl) (fun _ _ _ h => h) (Or.inl ⟨by rfl, ?_⟩) (by assumption) ?_
  rotate_left
  · intro w hSw
    try dsimp only at hSw
    go_simp
    try with_reducible rfl
  try simp only [Act.put, List.setIfInBounds_toArray, List.set_cons_zero, List.set_cons_succ]
  refine wpAnyH_ready (rs := [58]) (by kernel_rfl) (by simp) ?_
  refine AllReadyH.cons rfl (fun K hK => ?_) AllReadyH.nil
  go_simp
  refine (at_s 4 0 0 _).mono ?_
  rintro e v16 ⟨rfl, hb⟩
  have HKp := Lib.hid (HKp.out.step hb)
  clear hb
  go_wp2_with fail
  refine hK.out _ _ ?_ (fun hHeld => ?_)
  · exact HSt.out _ HKp.out
  clear hK K
  try simp only [Act.put, List.setIfInBounds_toArray, List.set_cons_zero, List.set_cons_succ]
  refine wpAnyH_ready (rs := [59]) (by kernel_rfl) (by simp) ?_
  refine AllReadyH.cons rfl (fun K hK => ?_) AllReadyH.nil
  go_simp
  refine (covers_k _ _ _ _ 4 0 0 true _ HKp.out.v (by decide +kernel)).mono ?_
  rintro e v17 ⟨rfl, hb⟩
  have HKp := Lib.hid (HKp.out.step hb)
  clear hb
  go_wp2_with fail
  refine hK.out _ _ ?_ (fun hHeld => ?_)
  · exact HSt.out _ HKp.out
  clear hK K
  try simp only [Act.put, List.setIfInBounds_toArray, List.set_cons_zero, List.set_cons_succ]
  refine wpAnyH_take (i := 60) (oi := { dst := some 95, op := _, type := _, pos := _, after := _, guard := _ }) (v := ?_) rfl (by kernel_rfl) (by kernel_rfl) (by kernel_rfl) (fun _ _ _ h => h) (Or.inl ⟨by rfl, ?_⟩) (by assumption) ?_
  rotate_left
  · intro w hSw
    try dsimp only at hSw
    go_simp
    try with_reducible rfl
  try simp only [Act.put, List.setIfInBounds_toArray, List.set_cons_zero, List.set_cons_succ]
  refine wpAnyH_take (i := 61) (oi := { dst := some 96, op := _, type := _, pos := _, after := _, guard := _ }) (v := ?_) rfl (by kernel_rfl) (by kernel_rfl) (by kernel_rfl) (fun _ _ _ h => h) (Or.inl ⟨by rfl, ?_⟩) (by assumption) ?_
  rotate_left
  · intro w hSw
    try dsimp only at hSw
    go_simp
    try with_reducible rfl
  try simp only [Act.put, List.setIfInBounds_toArray, List.set_cons_zero, List.set_cons_succ]
  refine wpAnyH_take (i := 62) (oi := { dst := some 97, op := _, type := _, pos := _, after := _, guard := _ }) (v := ?_) rfl (by kernel_rfl) (by kernel_rfl) (by kernel_rfl) (fun _ _ _ h => h) (Or.inl ⟨by rfl, ?_⟩) (by assumption) ?_
  rotate_left
  · intro w hSw
    try dsimp only at hSw
    go_simp
    try with_reducible rfl
  try simp only [Act.put, List.setIfInBounds_toArray, List.set_cons_zero, List.set_cons_succ]
  refine wpAnyH_ready (rs := [63]) (by kernel_rfl) (by simp) ?_
  refine AllReadyH.cons rfl (fun K hK => ?_) AllReadyH.nil
  go_simp
  refine (at_s 4 2 0 _).mono ?_
  rintro e v18 ⟨rfl, hb⟩
  have HKp := Lib.hid (HKp.out.step hb)
  clear hb
  go_wp2_with fail
  refine hK.out _ _ ?_ (fun hHeld => ?_)
  · exact HSt.out _ HKp.out
  clear hK K
  try simp only [Act.put, List.setIfInBounds_toArray, List.set_cons_zero, List.set_cons_succ]
  refine wpAnyH_ready (rs := [64]) (by kernel_rfl) (by simp) ?_
  refine AllReadyH.cons rfl (fun K hK => ?_) AllReadyH.nil
  go_simp
  refine (covers_k _ _ _ _ 4 2 0 false _ HKp.out.v (by decide +kernel)).mono ?_
  rintro e v19 ⟨rfl, hb⟩
  have HKp := Lib.hid (HKp.out.step hb)
  clear hb
  go_wp2_with fail
  refine hK.out _ _ ?_ (fun hHeld => ?_)
  · exact HSt.out _ HKp.out
  clear hK K
  try simp only [Act.put, List.setIfInBounds_toArray, List.set_cons_zero, List.set_cons_succ]
  refine wpAnyH_take (i := 65) (oi := { dst := some 100, op := _, type := _, pos := _, after := _, guard := _ }) (v := ?_) rfl (by kernel_rfl) (by kernel_rfl) (by kernel_rfl) (fun _ _ _ h => h) (Or.inl ⟨by rfl, ?_⟩) (by assumption) ?_
  rotate_left
  · intro w hSw
    try dsimp only at hSw
    go_simp
    try with_reducible rfl
  try simp only [Act.put, List.setIfInBounds_toArray, List.set_cons_zero, List.set_cons_succ]
  refine wpAnyH_take (i := 66) (oi := { dst := some 101, op := _, type := _, pos := _, after := _, guard := _ }) (v := ?_) rfl (by kernel_rfl) (by kernel_rfl) (by kernel_rfl) (fun _ _ _ h => h) (Or.inl ⟨by rfl, ?_⟩) (by assumption) ?_
  rotate_left
  · intro w hSw
    try dsimp only at hSw
    go_simp
    try with_reducible rfl
  try simp only [Act.put, List.setIfInBounds_toArray, List.set_cons_zero, List.set_cons_succ]
  refine wpAnyH_take (i := 67) (oi := { dst := some 102, op := _, type := _, pos := _, after := _, guard := _ }) (v := ?_) rfl (by kernel_rfl) (by kernel_rfl) (by kernel_rfl) (fun _ _ _ h => h) (Or.inl ⟨by rfl, ?_⟩) (by assumption) ?_
  rotate_left
  · intro w hSw
    try dsimp only at hSw
    go_simp
    try with_reducible rfl
  try simp only [Act.put, List.setIfInBounds_toArray, List.set_cons_zero, List.set_cons_succ]
  refine wpAnyH_take (i := 68) (oi := { dst := some 103, op := _, type := _, pos := _, after := _, guard := _ }) (v := ?_) rfl (by kernel_rfl) (by kernel_rfl) (by kernel_rfl) (fun _ _ _ h => h) (Or.inl ⟨by rfl, ?_⟩) (by assumption) ?_
  rotate_left
  · intro w hSw
    try dsimp only at hSw
    go_simp
    try with_reducible rfl
  try simp only [Act.put, List.setIfInBounds_toArray, List.set_cons_zero, List.set_cons_succ]
  refine wpAnyH_ready (rs := [69]) (by kernel_rfl) (by simp) ?_
  refine AllReadyH.cons rfl (fun K hK => ?_) AllReadyH.nil
  go_simp
  refine (within_k none _ 0 _ 0 _ [] _ true _ (cns_nil _) HKp.out.v (by decide +kernel)).mono ?_
  rintro e v20 ⟨rfl, hb⟩
  have HKp := Lib.hid (HKp.out.step hb)
  clear hb
  go_wp2_with fail
  refine hK.out _ _ ?_ (fun hHeld => ?_)
  · exact HSt.out _ HKp.out
  clear hK K
  try simp only [Act.put, List.setIfInBounds_toArray, List.set_cons_zero, List.set_cons_succ]
  refine wpAnyH_take (i := 70) (oi := { dst := some 105, op := _, type := _, pos := _, after := _, guard := _ }) (v := ?_) rfl (by kernel_rfl) (by kernel_rfl) (by kernel_rfl) (fun _ _ _ h => h) (Or.inl ⟨by rfl, ?_⟩) (by assumption) ?_
  rotate_left
  · intro w hSw
    try dsimp only at hSw
    go_simp
    try with_reducible rfl
  try simp only [Act.put, List.setIfInBounds_toArray, List.set_cons_zero, List.set_cons_succ]
  refine wpAnyH_take (i := 71) (oi := { dst := some 106, op := _, type := _, pos := _, after := _, guard := _ }) (v := ?_) rfl (by kernel_rfl) (by kernel_rfl) (by kernel_rfl) (fun _ _ _ h => h) (Or.inl ⟨by rfl, ?_⟩) (by assumption) ?_
  rotate_left
  · intro w hSw
    try dsimp only at hSw
    go_simp
    try with_reducible rfl
  try simp only [Act.put, List.setIfInBounds_toArray, List.set_cons_zero, List.set_cons_succ]
  refine wpAnyH_take (i := 72) (oi := { dst := some 107, op := _, type := _, pos := _, after := _, guard := _ }) (v := ?_) rfl (by kernel_rfl) (by kernel_rfl) (by kernel_rfl) (fun _ _ _ h => h) (Or.inl ⟨by rfl, ?_⟩) (by assumption) ?_
  rotate_left
  · intro w hSw
    try dsimp only at hSw
    go_simp
    try with_reducible rfl
  try simp only [Act.put, List.setIfInBounds_toArray, List.set_cons_zero, List.set_cons_succ]
  refine wpAnyH_ready (rs := [73]) (by kernel_rfl) (by simp) ?_
  refine AllReadyH.cons rfl (fun K hK => ?_) AllReadyH.nil
  go_simp
  refine (within_k _ none _ 0 _ 0 _ [] false _ HKp.out.v (cns_nil _) (by decide +kernel)).mono ?_
  rintro e v21 ⟨rfl, hb⟩
  have HKp := Lib.hid (HKp.out.step hb)
  clear hb
  go_wp2_with fail
  refine hK.out _ _ ?_ (fun hHeld => ?_)
  · exact HSt.out _ HKp.out
  clear hK K
  try simp only [Act.put, List.setIfInBounds_toArray, List.set_cons_zero, List.set_cons_succ]
  refine wpAnyH_take (i := 74) (oi := { dst := some 109, op := _, type := _, pos := _, after := _, guard := _ }) (v := ?_) rfl (by kernel_rfl) (by kernel_rfl) (by kernel_rfl) (fun _ _ _ h => h) (Or.inl ⟨by rfl, ?_⟩) (by assumption) ?_
  rotate_left
  · intro w hSw
    try dsimp only at hSw
    go_simp
    try with_reducible rfl
  try simp only [Act.put, List.setIfInBounds_toArray, List.set_cons_zero, List.set_cons_succ]
  refine wpAnyH_take (i := 75) (oi := { dst := some 110, op := _, type := _, pos := _, after := _, guard := _ }) (v := ?_) rfl (by kernel_rfl) (by kernel_rfl) (by kernel_rfl) (fun _ _ _ h => h) (Or.inl ⟨by rfl, ?_⟩) (by assumption) ?_
  rotate_left
  · intro w hSw
    try dsimp only at hSw
    go_simp
    try with_reducible rfl
  try simp only [Act.put, List.setIfInBounds_toArray, List.set_cons_zero, List.set_cons_succ]
  refine wpAnyH_take (i := 76) (oi := { dst := some 111, op := _, type := _, pos := _, after := _, guard := _ }) (v := ?_) rfl (by kernel_rfl) (by kernel_rfl) (by kernel_rfl) (fun _ _ _ h => h) (Or.inl ⟨by rfl, ?_⟩) (by assumption) ?_
  rotate_left
  · intro w hSw
    try dsimp only at hSw
    go_simp
    try with_reducible rfl
  try simp only [Act.put, List.setIfInBounds_toArray, List.set_cons_zero, List.set_cons_succ]
  refine wpAnyH_ready (rs := [77]) (by kernel_rfl) (by simp) ?_
  refine AllReadyH.cons rfl (fun K hK => ?_) AllReadyH.nil
  go_simp
  refine (at_s 1 0 3 _).mono ?_
  rintro e v22 ⟨rfl, hb⟩
  have HKp := Lib.hid (HKp.out.step hb)
  clear hb
  go_wp2_with fail
  refine hK.out _ _ ?_ (fun hHeld => ?_)
  · exact HSt.out _ HKp.out
  clear hK K
  try simp only [Act.put, List.setIfInBounds_toArray, List.set_cons_zero, List.set_cons_succ]
  refine wpAnyH_ready (rs := [78]) (by kernel_rfl) (by simp) ?_
  refine AllReadyH.cons rfl (fun K hK => ?_) AllReadyH.nil
  go_simp
  refine (note_k none 0 0 [] 1 0 3 [(1, 0, 3)] _ (cns_nil _) (by omega) (by decide +kernel)).mono ?_
  rintro e v23 ⟨uo, un, uc, rfl, hv, hb⟩
  have HKp := Lib.hid (HKp.out.step hb)
  obtain rfl : un = 1 := hv.1.symm
  clear hv
  clear hb
  go_wp2_with fail
  refine hK.out _ _ ?_ (fun hHeld => ?_)
  · exact HSt.out _ HKp.out
  clear hK K
  try simp only [Act.put, List.setIfInBounds_toArray, List.set_cons_zero, List.set_cons_succ]
  refine wpAnyH_take (i := 79) (oi := { dst := some 114, op := _, type := _, pos := _, after := _, guard := _ }) (v := ?_) rfl (by kernel_rfl) (by kernel_rfl) (by kernel_rfl) (fun _ _ _ h => h) (Or.inl ⟨by rfl, ?_⟩) (by assumption) ?_
  rotate_left
  · intro w hSw
    try dsimp only at hSw
    go_simp
    try with_reducible rfl
  try simp only [Act.put, List.setIfInBounds_toArray, List.set_cons_zero, List.set_cons_succ]
  refine wpAnyH_take (i := 80) (oi := { dst := some 115, op := _, type := _, pos := _, after := _, guard := _ }) (v := ?_) rfl (by kernel_rfl) (by kernel_rfl) (by kernel_rfl) (fun _ _ _ h => h) (Or.inl ⟨by rfl, ?_⟩) (by assumption) ?_
  rotate_left
  · intro w hSw
    try dsimp only at hSw
    go_simp
    try with_reducible rfl
  try simp only [Act.put, List.setIfInBounds_toArray, List.set_cons_zero, List.set_cons_succ]
  refine wpAnyH_take (i := 81) (oi := { dst := some 116, op := _, type := _, pos := _, after := _, guard := _ }) (v := ?_) rfl (by kernel_rfl) (by kernel_rfl) (by kernel_rfl) (fun _ _ _ h => h) (Or.inl ⟨by rfl, ?_⟩) (by assumption) ?_
  rotate_left
  · intro w hSw
    try dsimp only at hSw
    go_simp
    try with_reducible rfl
  try simp only [Act.put, List.setIfInBounds_toArray, List.set_cons_zero, List.set_cons_succ]
  refine wpAnyH_take (i := 82) (oi := { dst := some 0, op := _, type := _, pos := _, after := _, guard := _ }) (v := ?_) rfl (by kernel_rfl) (by kernel_rfl) (by kernel_rfl) (fun _ _ _ h => h) (Or.inl ⟨by rfl, ?_⟩) (by assumption) ?_
  rotate_left
  · intro w hSw
    try dsimp only at hSw
    go_simp
    try with_reducible rfl
  try simp only [Act.put, List.setIfInBounds_toArray, List.set_cons_zero, List.set_cons_succ]
  refine wpAnyH_done (by kernel_rfl) ?_ _
  go_wp2_with fail
  go_ret
  exact ⟨rfl, HKp.out.low⟩

end Go.Proofs.YtcnhkoijphfibaaDoor
