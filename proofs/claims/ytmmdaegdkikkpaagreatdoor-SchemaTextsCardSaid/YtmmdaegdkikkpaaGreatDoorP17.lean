/-
  Texts of the schema layer and of those beneath it, joined: SchFew, SchSml, SchFit, SchVld. Conditions stand at each contract.
-/
import Derived.Test.YtmmdaegdkikkpaaGreatDoorP05
import Derived.Test.YtmmdaegdkikkpaaGreatDoorP11
import Derived.Test.YtmmdaegdkikkpaaGreatDoorP13
import Derived.Test.YtmmdaegdkikkpaaGreatDoorP14
import Derived.Test.YtmmdaegdkikkpaaGreatDoorP16
set_option linter.unusedVariables false
set_option linter.unusedSimpArgs false
set_option linter.unnecessarySimpa false

section
/-
  Contract of the laws' guard few at schema. No condition.
-/
set_option maxRecDepth 100000
namespace Go.Proofs.YtmmdaegdkikkpaaGreatDoor
open Go.RowKit Go.PlainAid
/-- what a guard that lays boxes answers -/
structure GuardB (G : Prop) (w : World) (e : Ending) (w' : World) : Prop where
  ans : ∃ b : Bool, e = .returned (.bool b) ∧ (b = true → G) ∧ Below w.heap.size w w'
theorem guardB_no {G : Prop} {w w' : World} (h : Below w.heap.size w w') : GuardB G w (.returned (.bool false)) w' := ⟨⟨false, rfl, (fun e => by cases e), h⟩⟩
theorem guardB_yes {G : Prop} {w w' : World} (g : G) (h : Below w.heap.size w w') : GuardB G w (.returned (.bool true)) w' := ⟨⟨true, rfl, fun _ => g, h⟩⟩
/-- a class of at most 70 names of at most 70 bytes -/
structure ClS (c : Cl) : Prop where
  nm : c.name.size ≤ 70
  sup : c.super.size ≤ 70
  must : Short7 c.must
  may : Short7 c.may
/-- what few asks -/
structure FewS (ts : List Ty) (cs : List Cl) : Prop where
  lt : ts.length ≤ 70
  tys : ∀ t ∈ ts, t.name.size ≤ 70
  lc : cs.length ≤ 40
  cls : ∀ c ∈ cs, ClS c
theorem FewS.smT {ts : List Ty} {cs : List Cl} (h : FewS ts cs) : SmT ts := fun t ht => by have := h.tys t ht; omega
theorem FewS.smC {ts : List Ty} {cs : List Cl} (h : FewS ts cs) : SmC cs := fun c hc => by
  have k := h.cls c hc
  have k1 := k.nm
  have k2 := k.sup
  exact ⟨by omega, by omega, fun s hs => by have := k.must.each s hs; omega, fun s hs => by have := k.may.each s hs; omega⟩
/-- the box of a schema -/
structure FB (w W : World) (ao : Option Addr) (n cap : Nat) (bo : Option Addr) (m dap : Nat) : Prop where
  box : W.heap[w.heap.size]? = some (.cells #[.slice ao n cap, .slice bo m dap] 25)
  low : Below w.heap.size w W
  big : w.heap.size < W.heap.size
theorem FB.step {w W V : World} {ao : Option Addr} {n cap : Nat} {bo : Option Addr} {m dap : Nat} (h : FB w W ao n cap bo m dap) (hb : Below W.heap.size W V) : FB w V ao n cap bo m dap :=
  ⟨(hb.block _ h.big).trans h.box, h.low.trans (hb.mono h.low.size), Nat.lt_of_lt_of_le h.big hb.size⟩
theorem FB.cells {w W : World} {ao : Option Addr} {n cap : Nat} {bo : Option Addr} {m dap : Nat} (h : FB w W ao n cap bo m dap) : W.cell? ⟨w.heap.size, 0, none⟩ = some (.slice ao n cap) ∧ W.cell? ⟨w.heap.size, 1, none⟩ = some (.slice bo m dap) :=
  ⟨heap_cell h.box rfl, heap_cell h.box rfl⟩
theorem fb_new (w : World) (ao : Option Addr) (n cap : Nat) (bo : Option Addr) (m dap : Nat) : FB w (w.alloc (.cells #[.slice ao n cap, .slice bo m dap] 25)) ao n cap bo m dap :=
  ⟨heap_alloc_new w _, (Below.refl _ _).alloc (Nat.le_refl _) _, by simp⟩
set_option maxHeartbeats 4000000 in
theorem few_s (ao : Option Addr) (n cap : Nat) (ts : List Ty) (bo : Option Addr) (m dap : Nat) (cs : List Cl) (w : World) (hT : TysAt w ao n cap ts) (rT : RTy ts) (hC : ClsAt w bo m dap cs) (rC : RCl cs) :
    Calls Tryz.prog 13 #[.agg #[.slice ao n cap, .slice bo m dap]] w fun e w' => GuardB (FewS ts cs) w e w' := by
  have HT := Lib.hid hT
  have HC := Lib.hid hC
  have HRT := Lib.hid rT
  have HRC := Lib.hid rC
  have htl := hT.1
  have hcl := hC.1
  have htx := hT.2.2.1
  have hcx := hC.2.2.1
  have htn := hT.2.1
  have hcn := hC.2.1
  unfold maxLen at htx hcx
  have HTL := Lib.hid htl
  have HCL := Lib.hid hcl
  clear hT hC rT rC htl hcl
  have HK0 := Lib.hid (fb_new w ao n cap bo m dap)
  go_enter Tryz.func13, Tryz.ntmps13
  go_wp2_with fail
  generalize w.alloc (.cells #[.slice ao n cap, .slice bo m dap] 25) = W1 at HK0 ⊢
  obtain ⟨c0, c1⟩ := HK0.out.cells
  go_loop [3] (fun i => ∃ k : Nat, k ≤ n ∧ i = .int .i64 k ∧ Hid (∀ t ∈ ts.take k, t.name.size ≤ 70)) (fun i => n - (intOf i).toNat)
  case atStart => exact ⟨0, Nat.zero_le _, rfl, Lib.hid (fun v hv => by rw [List.take_zero] at hv; exact absurd hv List.not_mem_nil)⟩
  case round =>
    obtain ⟨k, hk, rfl, HV⟩ := hrel
    by_cases hlt : k < n
    · have d1 : decide ((k : Int) < (n : Int)) = true := decide_eq_true (by omega)
      have d0 : (0 : Int) ≤ (k : Int) := by omega
      have d3 : (k : Int) < (n : Int) := by omega
      obtain ⟨b, off, rfl, hbl, hs⟩ := (HT.out.below HK0.out.low).2.2.2 (by omega)
      have hcell := (hs k hlt).1
      clear hs
      have hps := HRT.out _ (ty_mem ts k (by rw [HTL.out]; exact hlt))
      have HTk := Lib.hid (ty_take ts k (by rw [HTL.out]; exact hlt))
      obtain ⟨T, hT⟩ : ∃ x, tyAt ts k = x := ⟨_, rfl⟩
      rw [hT] at hcell hps HTk
      clear hT
      obtain ⟨p, hp⟩ : ∃ x, T.name = x := ⟨_, rfl⟩
      rw [hp] at hcell hps
      have HP := Lib.hid hp
      clear hp
      by_cases h7 : 70 < p.size
      · have d4 : decide ((70 : Int) < (p.size : Int)) = true := decide_eq_true (by omega)
        go_wp2_with fail
        go_ret
        exact guardB_no HK0.out.low
      · have d4 : decide ((70 : Int) < (p.size : Int)) = false := decide_eq_false (by omega)
        have HV2 := Lib.hid (show ∀ t ∈ ts.take (k + 1), t.name.size ≤ 70 from fun v hv => by
          rw [HTk.out] at hv
          rcases List.mem_append.1 hv with q | q
          · exact HV.out v q
          · rw [List.mem_singleton.1 q, HP.out]; omega)
        go_wp2_with fail
        go_round
        case rel => exact ⟨k + 1, by omega, by go_num, HV2⟩
        case measure => simp [intOf]; omega
    · obtain rfl : n = k := by omega
      have d1 : decide ((n : Int) < (n : Int)) = false := decide_eq_false (by omega)
      have HVT := Lib.hid (show ∀ t ∈ ts, t.name.size ≤ 70 by have := HV.out; rwa [List.take_of_length_le (by rw [HTL.out]; exact Nat.le_refl _)] at this)
      clear HV d1
      go_wp2_with fail
      go_loopw [4, 5] (fun i s5 wr => ∃ j : Nat, j ≤ m ∧ i = .int .i64 j ∧ Hid (∀ c ∈ cs.take j, ClS c) ∧ Hid (FB w wr ao n cap bo m dap)) (fun i _ _ => m - (intOf i).toNat)
      case atStart => exact ⟨0, Nat.zero_le _, rfl, Lib.hid (fun v hv => by rw [List.take_zero] at hv; exact absurd hv List.not_mem_nil), HK0⟩
      case round =>
        clear c0 c1
        obtain ⟨j, hj, rfl, HV, HKj⟩ := hrel
        obtain ⟨c0, c1⟩ := HKj.out.cells
        by_cases hlt : j < m
        · have d1 : decide ((j : Int) < (m : Int)) = true := decide_eq_true (by omega)
          have d0 : (0 : Int) ≤ (j : Int) := by omega
          have d3 : (j : Int) < (m : Int) := by omega
          obtain ⟨b, off, rfl, hbl, hs⟩ := (HC.out.below HKj.out.low).2.2.2 (by omega)
          obtain ⟨y0, y1, ⟨a1, p1, q1, y2, hS1⟩, a2, p2, q2, y3, hS2⟩ := hs j hlt
          clear hs
          obtain ⟨hn0, hn1, hn2, hn3⟩ := HRC.out _ (cl_mem cs j (by rw [HCL.out]; exact hlt))
          have HTk := Lib.hid (cl_take cs j (by rw [HCL.out]; exact hlt))
          obtain ⟨C, hC⟩ : ∃ x, clAt cs j = x := ⟨_, rfl⟩
          rw [hC] at y0 y1 hS1 hS2 hn0 hn1 hn2 hn3 HTk
          clear hC
          obtain ⟨cn, sup, mu, ma⟩ := C
          simp only at y0 y1 hS1 hS2 hn0 hn1 hn2 hn3
          have HB1 := Lib.hid ((Below.refl wr.heap.size wr).alloc (Nat.le_refl _) (.cells #[.string cn, .string sup, .slice a1 p1 q1, .slice a2 p2 q2] 64))
          have HQ1 := Lib.hid (short7_s a1 p1 q1 mu _ (hS1.below HB1.out) hn2)
          have HQ2 := Lib.hid (short7_s a2 p2 q2 ma _ (hS2.below HB1.out) hn3)
          have HKn := Lib.hid (HKj.out.step HB1.out)
          clear hS1 hS2 hn2 hn3
          by_cases h1 : 70 < cn.size
          · have d4 : decide ((70 : Int) < (cn.size : Int)) = true := decide_eq_true (by omega)
            go_wp2_with fail
            go_ret
            exact guardB_no HKn.out.low
          · have d4 : decide ((70 : Int) < (cn.size : Int)) = false := decide_eq_false (by omega)
            by_cases h2 : 70 < sup.size
            · have d5 : decide ((70 : Int) < (sup.size : Int)) = true := decide_eq_true (by omega)
              go_wp2_with fail
              go_ret
              exact guardB_no HKn.out.low
            · have d5 : decide ((70 : Int) < (sup.size : Int)) = false := decide_eq_false (by omega)
              go_wp2_with fail
              refine HQ1.out.mono ?_
              rintro e W2 ⟨⟨g1, rfl, hg1, rfl⟩⟩
              cases g1
              · go_wp2_with fail
                go_ret
                exact guardB_no HKn.out.low
              · have HG1 := Lib.hid (hg1 rfl)
                clear hg1
                go_wp2_with fail
                refine HQ2.out.mono ?_
                rintro e W3 ⟨⟨g2, rfl, hg2, rfl⟩⟩
                cases g2
                · go_wp2_with fail
                  go_ret
                  exact guardB_no HKn.out.low
                · have HG2 := Lib.hid (hg2 rfl)
                  clear hg2
                  have HV2 := Lib.hid (show ∀ c ∈ cs.take (j + 1), ClS c from fun v hv => by
                    rw [HTk.out] at hv
                    rcases List.mem_append.1 hv with q | q
                    · exact HV.out v q
                    · rw [List.mem_singleton.1 q]; exact ⟨Nat.not_lt.1 h1, Nat.not_lt.1 h2, HG1.out, HG2.out⟩)
                  go_wp2_with fail
                  go_roundw
                  case rel => exact ⟨j + 1, by omega, by go_num, HV2, HKn⟩
                  case measure => simp [intOf]; omega
        · obtain rfl : m = j := by omega
          have d1 : decide ((m : Int) < (m : Int)) = false := decide_eq_false (by omega)
          have HVC := Lib.hid (show ∀ c ∈ cs, ClS c by have := HV.out; rwa [List.take_of_length_le (by rw [HCL.out]; exact Nat.le_refl _)] at this)
          by_cases h5 : n ≤ 70
          · have d4 : decide ((n : Int) ≤ (70 : Int)) = true := decide_eq_true (by omega)
            by_cases h6 : m ≤ 40
            · have d5 : decide ((m : Int) ≤ (40 : Int)) = true := decide_eq_true (by omega)
              have HG := Lib.hid (show FewS ts cs from ⟨by rw [HTL.out]; exact h5, HVT.out, by rw [HCL.out]; exact h6, HVC.out⟩)
              go_wp2_with fail
              go_ret
              exact guardB_yes HG.out HKj.out.low
            · have d5 : decide ((m : Int) ≤ (40 : Int)) = false := decide_eq_false (by omega)
              go_wp2_with fail
              go_ret
              exact guardB_no HKj.out.low
          · have d4 : decide ((n : Int) ≤ (70 : Int)) = false := decide_eq_false (by omega)
            go_wp2_with fail
            go_ret
            exact guardB_no HKj.out.low
end Go.Proofs.YtmmdaegdkikkpaaGreatDoor
end

section
/-
  Contract of the laws' small: the schema of the examples. No condition.
-/
set_option maxRecDepth 100000
namespace Go.Proofs.YtmmdaegdkikkpaaGreatDoor
open Go.RowKit Go.PlainAid
def exT : List Ty := [⟨⟨#[99, 108, 97, 115, 115]⟩, 1, false⟩, ⟨⟨#[99, 110]⟩, 1, false⟩, ⟨⟨#[97, 103, 101]⟩, 3, true⟩, ⟨⟨#[97, 99, 116, 105, 118, 101]⟩, 5, false⟩]
def exC : List Cl := [⟨⟨#[112, 101, 114, 115, 111, 110]⟩, ⟨#[]⟩, [⟨#[99, 110]⟩], [⟨#[97, 103, 101]⟩]⟩, ⟨⟨#[115, 116, 97, 102, 102]⟩, ⟨#[112, 101, 114, 115, 111, 110]⟩, [], [⟨#[97, 99, 116, 105, 118, 101]⟩]⟩]
theorem cells_new (w : World) (cs : List Value) (e : TypeId) (j : Nat) (u : Value) (h : cs[j]? = some u) : (w.alloc (.cells cs.toArray e)).cell? ⟨w.heap.size, j, none⟩ = some u := by
  have hb := heap_alloc_new w (.cells cs.toArray e)
  unfold World.cell?
  simp only [hb]
  simpa using h
theorem strs_new (w : World) (l : List ByteArray) (h : l.length ≤ maxLen) : StrsAt (w.alloc (.cells (scells l).toArray 9)) (some ⟨w.heap.size, 0, none⟩) l.length l.length l :=
  ⟨rfl, Nat.le_refl _, h, fun _ => ⟨w.heap.size, 0, rfl, by simp, fun j hj => by
    rw [Nat.zero_add]
    refine cells_new w _ _ _ _ ?_
    unfold scells partAt
    rw [List.getElem?_map, List.getD_eq_getElem?_getD, List.getElem?_eq_getElem hj]; rfl⟩⟩
/-- what stands in a block -/
def Kb (W : World) (b : Nat) (o : Obj) : Prop := W.heap[b]? = some o
theorem Kb.big {W : World} {b : Nat} {o : Obj} (h : Kb W b o) : b < W.heap.size := by
  rcases Nat.lt_or_ge b W.heap.size with k | k
  · exact k
  · unfold Kb at h; rw [Array.getElem?_eq_none k] at h; cases h
theorem Kb.step {W V : World} {b : Nat} {o : Obj} (h : Kb W b o) (hb : Below W.heap.size W V) : Kb V b o := (hb.block b h.big).trans h
theorem kbl_new (W : World) (o : Obj) : Kb (W.alloc o) W.heap.size o := heap_alloc_new W o
theorem Kb.cell {W : World} {b i : Nat} {c : Array Value} {t : TypeId} {v : Value} (h : Kb W b (.cells c t)) (hv : c[i]? = some v) : W.cell? ⟨b, i, none⟩ = some v := heap_cell h hv
theorem Kb.set {W : World} {b : Nat} {o : Obj} (h : Kb W b o) (a : Addr) (u : Value) (hn : b ≠ a.block) : Kb (W.setCell a u) b o := (heap_setCell_other W a b u hn).trans h
theorem strs_kb {W : World} {b n : Nat} {l : List ByteArray} (h : Kb W b (.cells (scells l).toArray 9)) (hn : l.length = n) (hl : n ≤ maxLen) : StrsAt W (some ⟨b, 0, none⟩) n n l :=
  ⟨hn, Nat.le_refl _, hl, fun _ => ⟨b, 0, rfl, h.big, fun j hj => by
    rw [Nat.zero_add]
    refine h.cell ?_
    unfold scells partAt
    rw [List.getElem?_toArray, List.getElem?_map, List.getD_eq_getElem?_getD, List.getElem?_eq_getElem (by omega)]; rfl⟩⟩
theorem strs_none (W : World) : StrsAt W none 0 0 [] := ⟨rfl, Nat.le_refl _, Nat.zero_le _, fun h => absurd h (Nat.not_lt_zero _)⟩
/-- the blocks of the schema of the examples -/
structure Sm5 (W : World) (b : Nat) : Prop where
  t : Kb W b (.cells #[.string ⟨#[99, 108, 97, 115, 115]⟩, .int .i64 1, .bool false, .string ⟨#[99, 110]⟩, .int .i64 1, .bool false, .string ⟨#[97, 103, 101]⟩, .int .i64 3, .bool true, .string ⟨#[97, 99, 116, 105, 118, 101]⟩, .int .i64 5, .bool false] 62)
  s1 : Kb W (b + 1) (.cells #[.string ⟨#[99, 110]⟩] 9)
  s2 : Kb W (b + 1 + 1) (.cells #[.string ⟨#[97, 103, 101]⟩] 9)
  s3 : Kb W (b + 1 + 1 + 1) (.cells #[.string ⟨#[97, 99, 116, 105, 118, 101]⟩] 9)
  c : Kb W (b + 1 + 1 + 1 + 1) (.cells #[.string ⟨#[112, 101, 114, 115, 111, 110]⟩, .string ⟨#[]⟩, .slice (some ⟨b + 1, 0, none⟩) 1 1, .slice (some ⟨b + 1 + 1, 0, none⟩) 1 1, .string ⟨#[115, 116, 97, 102, 102]⟩, .string ⟨#[112, 101, 114, 115, 111, 110]⟩, .slice none 0 0, .slice (some ⟨b + 1 + 1 + 1, 0, none⟩) 1 1] 64)
theorem sm_types {W : World} {b : Nat} (h : Sm5 W b) : TysAt W (some ⟨b, 0, none⟩) 4 4 exT :=
  ⟨rfl, Nat.le_refl _, by unfold maxLen; omega, fun _ => ⟨b, 0, rfl, h.t.big, fun j hj => by
    match j, hj with
    | 0, _ => exact ⟨h.t.cell rfl, h.t.cell rfl, h.t.cell rfl⟩
    | 1, _ => exact ⟨h.t.cell rfl, h.t.cell rfl, h.t.cell rfl⟩
    | 2, _ => exact ⟨h.t.cell rfl, h.t.cell rfl, h.t.cell rfl⟩
    | 3, _ => exact ⟨h.t.cell rfl, h.t.cell rfl, h.t.cell rfl⟩⟩⟩
theorem sm_classes {W : World} {b : Nat} (h : Sm5 W b) : ClsAt W (some ⟨b + 1 + 1 + 1 + 1, 0, none⟩) 2 2 exC :=
  ⟨rfl, Nat.le_refl _, by unfold maxLen; omega, fun _ => ⟨b + 1 + 1 + 1 + 1, 0, rfl, h.c.big, fun j hj => by
    match j, hj with
    | 0, _ => exact ⟨h.c.cell rfl, h.c.cell rfl, ⟨_, _, _, h.c.cell rfl, strs_kb (l := [⟨#[99, 110]⟩]) h.s1 rfl (by unfold maxLen; omega)⟩, _, _, _, h.c.cell rfl, strs_kb (l := [⟨#[97, 103, 101]⟩]) h.s2 rfl (by unfold maxLen; omega)⟩
    | 1, _ => exact ⟨h.c.cell rfl, h.c.cell rfl, ⟨_, _, _, h.c.cell rfl, strs_none W⟩, _, _, _, h.c.cell rfl, strs_kb (l := [⟨#[97, 99, 116, 105, 118, 101]⟩]) h.s3 rfl (by unfold maxLen; omega)⟩⟩⟩
theorem smT_dec {ts : List Ty} (h : ts.all (fun t => decide (t.name.size ≤ 1000)) = true) : SmT ts := fun t ht => by
  have := of_decide_eq_true (List.all_eq_true.1 h t ht); omega
theorem smC_dec {cs : List Cl} (h : cs.all (fun c => decide (c.name.size ≤ 1000) && decide (c.super.size ≤ 1000) && c.must.all (fun s => decide (s.size ≤ 1000)) && c.may.all (fun s => decide (s.size ≤ 1000))) = true) : SmC cs := fun c hc => by
  have h := List.all_eq_true.1 h c hc
  simp only [Bool.and_eq_true, List.all_eq_true, decide_eq_true_eq] at h
  obtain ⟨⟨⟨h1, h2⟩, h3⟩, h4⟩ := h
  exact ⟨by omega, by omega, fun s hs => by have := h3 s hs; omega, fun s hs => by have := h4 s hs; omega⟩
theorem sm_sch {W : World} {b : Nat} (h : Sm5 W b) : SchV W (.agg #[.slice (some ⟨b, 0, none⟩) 4 4, .slice (some ⟨b + 1 + 1 + 1 + 1, 0, none⟩) 2 2]) exT exC :=
  ⟨_, _, _, _, _, _, rfl, sm_types h, sm_classes h, smT_dec (by decide +kernel), smC_dec (by decide +kernel)⟩
theorem below_al (W : World) (o : Obj) : Below W.heap.size W (W.alloc o) := (Below.refl _ _).alloc (Nat.le_refl _) o
theorem kb_at {W : World} {b : Nat} (o : Obj) (h : W.heap.size = b) : Kb (W.alloc o) b o := by subst h; exact kbl_new W o
theorem tower5 (w : World) (o0 o1 o2 o3 o4 o5 : Obj) : Kb ((((((w.alloc o0).alloc o1).alloc o2).alloc o3).alloc o4).alloc o5) (w.heap.size + 1) o1 ∧ Kb ((((((w.alloc o0).alloc o1).alloc o2).alloc o3).alloc o4).alloc o5) (w.heap.size + 1 + 1) o2 ∧
    Kb ((((((w.alloc o0).alloc o1).alloc o2).alloc o3).alloc o4).alloc o5) (w.heap.size + 1 + 1 + 1) o3 ∧ Kb ((((((w.alloc o0).alloc o1).alloc o2).alloc o3).alloc o4).alloc o5) (w.heap.size + 1 + 1 + 1 + 1) o4 ∧
    Kb ((((((w.alloc o0).alloc o1).alloc o2).alloc o3).alloc o4).alloc o5) (w.heap.size + 1 + 1 + 1 + 1 + 1) o5 ∧ Below w.heap.size w ((((((w.alloc o0).alloc o1).alloc o2).alloc o3).alloc o4).alloc o5) := by
  have s : ∀ (W : World) (o : Obj), (W.alloc o).heap.size = W.heap.size + 1 := fun W o => by simp
  have k1 := kb_at (W := w.alloc o0) o1 (s _ _)
  have k2 := kb_at (W := (w.alloc o0).alloc o1) o2 (by rw [s, s])
  have k3 := kb_at (W := ((w.alloc o0).alloc o1).alloc o2) o3 (by rw [s, s, s])
  have k4 := kb_at (W := (((w.alloc o0).alloc o1).alloc o2).alloc o3) o4 (by rw [s, s, s, s])
  have k5 := kb_at (W := ((((w.alloc o0).alloc o1).alloc o2).alloc o3).alloc o4) o5 (by rw [s, s, s, s, s])
  refine ⟨(((k1.step (below_al _ _)).step (below_al _ _)).step (below_al _ _)).step (below_al _ _), ((k2.step (below_al _ _)).step (below_al _ _)).step (below_al _ _), (k3.step (below_al _ _)).step (below_al _ _), k4.step (below_al _ _), k5, ?_⟩
  exact ((((((Below.refl w.heap.size w).alloc (Nat.le_refl _) o0).alloc (by simp only [s]; omega) o1).alloc (by simp only [s]; omega) o2).alloc (by simp only [s]; omega) o3).alloc (by simp only [s]; omega) o4).alloc (by simp only [s]; omega) o5
set_option maxHeartbeats 4000000 in
theorem small_s (w : World) : Calls Tryz.prog 45 #[] w fun e w' => ∃ v, e = .returned v ∧ SchV w' v exT exC ∧ Below w.heap.size w w' := by
  go_enter Tryz.func45, Tryz.ntmps45
  go_wp2_with fail
  refine bodyPost_ret (v := .agg #[.slice (some ⟨w.heap.size + 1, 0, none⟩) 4 4, .slice (some ⟨w.heap.size + 1 + 1 + 1 + 1 + 1, 0, none⟩) 2 2]) (by simp only [results, Tryz.results45]; go_simp) rfl ?_
  have ht := tower5 w (.cells #[.slice (some ⟨w.heap.size + 1, 0, none⟩) 4 4, .slice (some ⟨w.heap.size + 1 + 1 + 1 + 1 + 1, 0, none⟩) 2 2] 25) (.cells #[.string ⟨#[99, 108, 97, 115, 115]⟩, .int .i64 1, .bool false, .string ⟨#[99, 110]⟩, .int .i64 1, .bool false, .string ⟨#[97, 103, 101]⟩, .int .i64 3, .bool true, .string ⟨#[97, 99, 116, 105, 118, 101]⟩, .int .i64 5, .bool false] 62) (.cells #[.string ⟨#[99, 110]⟩] 9) (.cells #[.string ⟨#[97, 103, 101]⟩] 9) (.cells #[.string ⟨#[97, 99, 116, 105, 118, 101]⟩] 9) (.cells #[.string ⟨#[112, 101, 114, 115, 111, 110]⟩, .string ⟨#[]⟩, .slice (some ⟨w.heap.size + 1 + 1, 0, none⟩) 1 1, .slice (some ⟨w.heap.size + 1 + 1 + 1, 0, none⟩) 1 1, .string ⟨#[115, 116, 97, 102, 102]⟩, .string ⟨#[112, 101, 114, 115, 111, 110]⟩, .slice none 0 0, .slice (some ⟨w.heap.size + 1 + 1 + 1 + 1, 0, none⟩) 1 1] 64)
  exact ⟨_, rfl, sm_sch (b := w.heap.size + 1) ⟨ht.1, ht.2.1, ht.2.2.1, ht.2.2.2.1, ht.2.2.2.2.1⟩, ht.2.2.2.2.2⟩
end Go.Proofs.YtmmdaegdkikkpaaGreatDoor
end

section
/-
  Contract of the table's fits. Condition: few attributes, names of at most 1000000000 bytes.
-/
set_option maxRecDepth 100000
namespace Go.Proofs.YtmmdaegdkikkpaaGreatDoor
open Go.RowKit Go.PlainAid Go.Maps
/-- strings stand in no map's block -/
theorem strs_turned {w w' : World} {b m : Nat} {D : DataW Unit} {ks : List ByteArray} {ao : Option Addr} {n cap : Nat} {l : List ByteArray} (h : StrsAt w ao n cap l) (G : SetM w b m D ks) (hg : w.grownBy w' (some b)) : StrsAt w' ao n cap l := by
  refine ⟨h.1, h.2.1, h.2.2.1, fun hn => ?_⟩
  obtain ⟨g, off, e, hl, hc⟩ := h.2.2.2 hn
  have hne : g ≠ b := by
    rintro rfl
    obtain ⟨es, clock, hb, _⟩ := G.map
    have := hc 0 (by rw [h.1]; exact hn)
    simp [World.cell?, hb] at this
  exact ⟨g, off, e, Nat.lt_of_lt_of_le hl hg.size, fun j hj => (hg.cell (hc j hj) (fun e => hne (Option.some.inj e)))⟩
/-- what classes ask -/
def askB (cs : List Cl) (P : List ByteArray) (v : ByteArray) : Bool := (clOf cs (foldS v)).isSome && (mustS cs (foldS v)).all (memB P)
def allowL (cs : List Cl) (C : List ByteArray) : List ByteArray := [classN] ++ C.flatMap fun v => mayS cs (foldS v)
def fitsB (cs : List Cl) (l : List At) : Bool :=
  (vals l (lowS classN)).all (askB cs (names l)) && (memB (names l) classN && (names l).all (memB (allowL cs (vals l (lowS classN)))))
theorem allowL_take (cs : List Cl) (C : List ByteArray) (k : Nat) (h : k < C.length) : allowL cs (C.take (k + 1)) = allowL cs (C.take k) ++ mayS cs (foldS (partAt C k)) := by
  unfold allowL
  rw [take_snoc C k h, List.flatMap_append, List.append_assoc]
  simp
theorem mayS_few {cs : List Cl} (hS : SoundC cs) (hL : cs.length ≤ 1000) (hF : FewC cs) (n : ByteArray) : (mayS cs n).length ≤ 128000 := by
  rw [mayS_eq]
  refine Nat.le_trans (sortU_len _) ?_
  rw [List.length_map, List.length_append]
  have h1 := mustS_few hS hL hF n
  have h2 : (mayL (lineS cs n)).length ≤ 64000 := mayL_few hF (fun c hc => lineS_mem hc) (Nat.le_trans (lineS_small hS n) hL)
  show (mustS cs n).length + (mayL (lineS cs n)).length ≤ 128000
  omega
theorem mayS_small {cs : List Cl} (hZ : SmC cs) {n s : ByteArray} (h : s ∈ mayS cs n) : s.size ≤ 1000000000 := by
  rw [mayS_eq, sortU_mem] at h
  obtain ⟨t, ht, rfl⟩ := List.mem_map.1 h
  rw [lowS_size]
  rcases List.mem_append.1 ht with h | h
  · exact mustS_small hZ h
  · obtain ⟨c, hc, hs⟩ := List.mem_flatMap.1 h
    exact (hZ c (lineS_mem hc)).2.2.2 t hs
theorem namesF_small {l : List At} (h : SmallA l) {s : ByteArray} (hs : s ∈ names l) : s.size ≤ 1000000 := by
  unfold names at hs
  rw [sortU_mem] at hs
  obtain ⟨a, ha, rfl⟩ := List.mem_map.1 hs
  rw [lowS_size]
  exact (h a (List.mem_filter.1 ha).1).1
set_option maxHeartbeats 16000000 in
theorem fits_s (mt mc : Option Nat) (w0 : World) (cs : List Cl) (ao : Option Addr) (n cap : Nat) (l : List At) (w : World) (h0 : Below w0.heap.size w0 w) (h : CMap w0 w mc cs) (hS : SoundC cs) (hL : cs.length ≤ 1000) (hZ : SmC cs) (hF : FewC cs) (hl : AttrsAt w ao n cap l) (hFw : Few l)
    (hC : (vals l (lowS classN)).length ≤ 100000 ∧ ∀ v ∈ vals l (lowS classN), v.size ≤ 1000000) (hP : (names l).length ≤ 1000) :
    Calls Tryz.prog 111 #[.agg #[.map mt, .map mc], .slice ao n cap] w fun e w' => e = .returned (.bool (fitsB cs l)) ∧ Below w.heap.size w w' := by
  have HN := Lib.hid (fun (W : World) (hW : Below w.heap.size w W) => names_s ao n cap l W (hl.below hW) hFw)
  have HG := Lib.hid (fun (W : World) (hW : Below w.heap.size w W) => get_s ao n cap l classN W (hl.below hW) hFw (by decide))
  have HCl := Lib.hid (fun (n : ByteArray) (W : World) (hn : n.size ≤ 1000000000) (hW : Below w.heap.size w W) => class_s mt mc w0 cs n W (h.below hW) hn)
  have HMu := Lib.hid (fun (n : ByteArray) (W : World) (hn : n.size ≤ 1000000000) (hW : Below w.heap.size w W) => must_s mt mc w0 cs n W (h0.trans (hW.mono h0.size)) (h.below hW) hS hL hZ hF hn)
  have HMa := Lib.hid (fun (n : ByteArray) (W : World) (hn : n.size ≤ 1000000000) (hW : Below w.heap.size w W) => may_s mt mc w0 cs n W (h0.trans (hW.mono h0.size)) (h.below hW) hS hL hZ hF hn)
  have HQ := Lib.hid (And.intro (fun n => mustS_few hS hL hF n) (And.intro (fun n => mayS_few hS hL hF n) (And.intro (fun n s (hs : s ∈ mustS cs n) => mustS_small hZ hs) (fun n s (hs : s ∈ mayS cs n) => mayS_small hZ hs))))
  have HPS := Lib.hid (fun s (hs : s ∈ names l) => namesF_small hFw.small hs)
  have HE := Lib.hid (show fitsB cs l = ((vals l (lowS classN)).all (askB cs (names l)) && (memB (names l) classN && (names l).all (memB (allowL cs (vals l (lowS classN)))))) from rfl)
  obtain ⟨P, hPe⟩ : ∃ P, names l = P := ⟨_, rfl⟩
  obtain ⟨C, hCe⟩ : ∃ C, vals l (lowS classN) = C := ⟨_, rfl⟩
  obtain ⟨R, hRe⟩ : ∃ R, fitsB cs l = R := ⟨_, rfl⟩
  rw [hPe, hCe, hRe] at HE
  rw [hPe] at HN HPS hP
  rw [hCe] at HG hC
  rw [hRe]
  clear hPe hCe hRe h0 h hS hZ hF hl hFw
  have HCS := Lib.hid hC.2
  replace hC := hC.1
  have B1 := (Below.refl w.heap.size w).alloc (Nat.le_refl _) (.cells #[.map mt, .map mc] 130)
  have B2 := B1.alloc (by simp) (.map #[] 0)
  have G0 := setM_made (H := Unit) (w.alloc (.cells #[.map mt, .map mc] 130))
  have HB0 := Lib.hid B2
  have HM0 := Lib.hid (show ((w.alloc (.cells #[.map mt, .map mc] 130)).alloc (.map #[] 0)).cell? ⟨w.heap.size, 0, none⟩ = some (.map mt) ∧ ((w.alloc (.cells #[.map mt, .map mc] 130)).alloc (.map #[] 0)).cell? ⟨w.heap.size, 1, none⟩ = some (.map mc) from ⟨by go_simp, by go_simp⟩)
  have HG0 := Lib.hid G0
  have hmm := @run_makeMap Tryz.prog
  clear B1 B2 G0
  go_enter Tryz.func111, Tryz.ntmps111
  go_wp2_with fail
  refine (HN.out _ HB0.out).mono ?_
  rintro e w1 ⟨v, rfl, ⟨no, nn, nc, rfl, hP1⟩, hb⟩
  have hnn := hP1.1
  have hg1 := SetM.below HG0.out hb
  rw [World.size_alloc] at hg1
  have HG1 := Lib.hid hg1
  clear hg1
  have HM1 := Lib.hid (And.intro (cell_later hb HM0.out.1) (cell_later hb HM0.out.2))
  have hsz1 : w.heap.size + 1 < w1.heap.size := by have := hb.size; simp at this; omega
  have HB1 := Lib.hid (HB0.out.trans (hb.mono (by simp; omega)))
  have HP1 := Lib.hid hP1
  clear hb HG0 HM0 HB0 hP1
  go_wp2_with fail
  go_loopw [7, 20] (fun s7 i wr => ∃ (k : Nat) (D : DataW Unit), k ≤ nn ∧ i = .int .i64 k ∧ Hid (SetM wr (w.heap.size + 1) k D (P.take k)) ∧ Hid (StrsAt wr no nn nc P) ∧ Hid (wr.cell? ⟨w.heap.size, 0, none⟩ = some (.map mt) ∧ wr.cell? ⟨w.heap.size, 1, none⟩ = some (.map mc)) ∧ Hid (Below w.heap.size w wr ∧ w.heap.size + 1 < wr.heap.size)) (fun _ i _ => nn - (intOf i).toNat)
  case atStart => exact ⟨0, _, Nat.zero_le _, rfl, HG1, HP1, HM1, Lib.hid ⟨HB1.out, hsz1⟩⟩
  case round =>
    clear HG1 HP1 HM1 HB1 hsz1
    obtain ⟨k, D, hk, rfl, HGk, HPk, HMk, HBk⟩ := hrel
    by_cases hlt : k < nn
    · obtain ⟨g, off, e, hg, hc⟩ := HPk.out.2.2.2 (by omega)
      subst e
      have hcell := hc k (by omega)
      clear hc
      obtain ⟨p, hp⟩ : ∃ x, partAt P k = x := ⟨_, rfl⟩
      have hps : p.size ≤ 1000000 := by rw [← hp]; exact HPS.out _ (part_mem P k (by omega))
      rw [hp] at hcell
      have HT := Lib.hid (show P.take (k + 1) = P.take k ++ [p] by rw [← hp]; exact take_snoc P k (by omega))
      clear hp
      obtain ⟨w', hrun, HG', hgr⟩ := HGk.out.store p (by unfold maxLen; omega) (by unfold maxLen; omega)
      have HG2 := Lib.hid HG'
      have HP2 := Lib.hid (strs_turned HPk.out HGk.out hgr)
      have HM2 := Lib.hid (And.intro (cell_turned HMk.out.1 hgr (by show w.heap.size ≠ w.heap.size + 1; omega)) (cell_turned HMk.out.2 hgr (by show w.heap.size ≠ w.heap.size + 1; omega)))
      have HB2 := Lib.hid (And.intro (HBk.out.1.grown hgr (by have := HBk.out.2; omega) (fun j hj => by have := Option.some.inj hj; omega)) (Nat.lt_of_lt_of_le HBk.out.2 hgr.size))
      clear HG' hgr
      have d1 : (k : Int) < (nn : Int) := by omega
      go_wp2_with fail
      go_roundw
      case rel => exact ⟨k + 1, _, by omega, by go_num, by rw [HT.out]; exact HG2, HP2, HM2, HB2⟩
      case measure => simp [intOf]; omega
    · obtain rfl : k = nn := by omega
      rw [List.take_of_length_le (by omega)] at HGk
      have d1 : ¬ (k : Int) < (k : Int) := by omega
      have hsz := HBk.out.2
      have G2 := setM_made (H := Unit) wr
      obtain ⟨w5, hrun5, hG5, hg5⟩ := G2.store classN (by decide) (by unfold maxLen; omega)
      have hal := (Below.refl wr.heap.size wr).alloc (Nat.le_refl _) (.map #[] 0)
      have HG5 := Lib.hid hG5
      have HP5 := Lib.hid ((SetM.below HGk.out hal).kept hg5 (by intro e; have := Option.some.inj e; omega))
      have HM5 := Lib.hid (And.intro (cell_turned (cell_later hal HMk.out.1) hg5 (by show w.heap.size ≠ wr.heap.size; omega)) (cell_turned (cell_later hal HMk.out.2) hg5 (by show w.heap.size ≠ wr.heap.size; omega)))
      have HB5 := Lib.hid (show Below w.heap.size w w5 ∧ wr.heap.size < w5.heap.size from ⟨(HBk.out.1.trans (hal.mono (by omega))).grown hg5 (by simp; omega) (fun j hj => by have := Option.some.inj hj; omega), by have := hg5.size; simp at this; omega⟩)
      clear G2 hG5 hg5 hal
      unfold classN at hrun5
      go_wp2_with fail
      clear hrun5 hmm
      refine (HG.out w5 HB5.out.1).mono ?_
      rintro e w6 ⟨v, rfl, ⟨co, cn, cc, rfl, hC6⟩, hb⟩
      have hcn := hC6.1
      have HC6 := Lib.hid hC6
      have HG6 := Lib.hid (SetM.below HG5.out hb)
      have HP6 := Lib.hid (SetM.below HP5.out hb)
      have HM6 := Lib.hid (And.intro (cell_later hb HM5.out.1) (cell_later hb HM5.out.2))
      have HB6 := Lib.hid (show Below w.heap.size w w6 ∧ wr.heap.size < w6.heap.size from ⟨HB5.out.1.trans (hb.mono HB5.out.1.size), Nat.lt_of_lt_of_le HB5.out.2 hb.size⟩)
      clear hb hC6 HG5 HP5 HM5 HB5 HGk HPk HMk HBk
      obtain ⟨ma, hma⟩ : ∃ x, wr.heap.size = x := ⟨_, rfl⟩
      rw [hma] at HG6 HB6 hsz ⊢
      clear hma
      go_wp2_with fail
      go_loopw [10, 11, 12, 13, 15, 32] (fun s10 s11 s12 s13 s15 i wq => ∃ (j N : Nat) (D' : DataW Unit), j ≤ cn ∧ i = .int .i64 j ∧ N ≤ 1 + j * 128000 ∧ Hid ((C.take j).all (askB cs P) = true) ∧ Hid (SetM wq ma N D' (allowL cs (C.take j))) ∧ Hid (SetM wq (w.heap.size + 1) k D P) ∧ Hid (StrsAt wq co cn cc C) ∧ Hid (wq.cell? ⟨w.heap.size, 0, none⟩ = some (.map mt) ∧ wq.cell? ⟨w.heap.size, 1, none⟩ = some (.map mc)) ∧ Hid (Below w.heap.size w wq ∧ ma < wq.heap.size)) (fun _ _ _ _ _ i _ => cn - (intOf i).toNat)
      case atStart => exact ⟨0, 1, _, Nat.zero_le _, rfl, by omega, Lib.hid rfl, HG6, HP6, HC6, HM6, HB6⟩
      case round =>
        clear HG6 HP6 HC6 HM6 HB6
        obtain ⟨j, N, D', hj, rfl, hN, HA, HGj, HPj, HCj, HMj, HBj⟩ := hrel
        obtain ⟨m0, m1⟩ := HMj.out
        by_cases hlt2 : j < cn
        · obtain ⟨g, off, e, hg, hc⟩ := HCj.out.2.2.2 (by omega)
          subst e
          have hcell := hc j (by omega)
          clear hc
          have hps := HCS.out _ (part_mem C j (by omega))
          have HTa := Lib.hid (allowL_take cs C j (by omega))
          have HTt := Lib.hid (show askB cs P (partAt C j) = true → (C.take (j + 1)).all (askB cs P) = true from fun h => all_take HA.out (by omega) h)
          have HTf := Lib.hid (show askB cs P (partAt C j) = false → R = false from fun h => by rw [HE.out, all_false (by omega) h]; rfl)
          obtain ⟨p, hp⟩ : ∃ x, partAt C j = x := ⟨_, rfl⟩
          rw [hp] at hcell hps HTa HTt HTf
          clear hp
          have hfs : (foldS p).size ≤ 1000000 := Nat.le_trans (foldS_size p) hps
          have HASK := Lib.hid (show askB cs P p = ((clOf cs (foldS p)).isSome && (mustS cs (foldS p)).all (memB P)) from rfl)
          have d2 : (j : Int) < (cn : Int) := by omega
          go_wp2_with fail
          refine (fold_s p _ (by omega)).mono ?_
          rintro e w7 ⟨rfl, hb⟩
          obtain ⟨f, hf⟩ : ∃ f, foldS p = f := ⟨_, rfl⟩
          rw [hf] at HTa hfs HASK ⊢
          clear hf
          have HB7 := Lib.hid (show Below w.heap.size w w7 ∧ w.heap.size + 1 < w7.heap.size from ⟨HBj.out.1.trans (hb.mono HBj.out.1.size), by have := HBj.out.2; have := hb.size; omega⟩)
          have HK7 := Lib.hid hb
          have m0 := cell_later hb m0
          have m1 := cell_later hb m1
          have hsz7 : w.heap.size < w7.heap.size := by have := HB7.out.2; omega
          clear hb
          go_wp2_with fail
          refine (HCl.out f _ (by omega) HB7.out.1).mono ?_
          rintro e w8 ⟨⟨cl, _, _⟩, a1, p1, q1, a2, p2, q2, rfl, rfl, _, rfl, hb⟩
          dsimp only
          obtain ⟨ok, hok⟩ : ∃ b, (clOf cs f).isSome = b := ⟨_, rfl⟩
          rw [hok] at HASK ⊢
          clear hok
          generalize cl.name = xn
          generalize cl.super = xs
          have hal := (Below.refl w8.heap.size w8).alloc (Nat.le_refl _) (.cells #[.string xn, .string xs, .slice a1 p1 q1, .slice a2 p2 q2] 64)
          have HK8 := Lib.hid (HK7.out.trans (hb.mono HK7.out.size))
          have HB8 := Lib.hid (show Below w.heap.size w w8 ∧ w.heap.size + 1 < w8.heap.size from ⟨HB7.out.1.trans (hb.mono HB7.out.1.size), by have := HB7.out.2; have := hb.size; omega⟩)
          have HK9 := Lib.hid (HK8.out.trans (hal.mono HK8.out.size))
          have HB9 := Lib.hid (HB8.out.1.trans (hal.mono HB8.out.1.size))
          have m0 := cell_later hb m0
          have m1 := cell_later hb m1
          have hsz8 : w.heap.size < w8.heap.size := by have := HB8.out.2; omega
          clear hal hb hsz7 HB7 HK7
          cases ok
          · have HR := Lib.hid (HTf.out (HASK.out.trans rfl))
            go_wp2_with fail
            go_ret
            exact ⟨by rw [HR.out]; rfl, HB9.out⟩
          · have hask : askB cs P p = (mustS cs f).all (memB P) := HASK.out.trans rfl
            go_wp2_with fail
            refine (HMu.out f _ (by omega) HB9.out).mono ?_
            rintro e w10 ⟨u, rfl, hou, hb⟩
            obtain ⟨uo, uc, rfl, hus⟩ := strs_own hou rfl
            have HK10 := Lib.hid (HK9.out.trans (hb.mono HK9.out.size))
            have HB10 := Lib.hid (HB9.out.trans (hb.mono HB9.out.size))
            have hal2 := (Below.refl w8.heap.size w8).alloc (Nat.le_refl _) (.cells #[.string xn, .string xs, .slice a1 p1 q1, .slice a2 p2 q2] 64)
            have m0 := cell_later hb (cell_later hal2 m0)
            have m1 := cell_later hb (cell_later hal2 m1)
            have HCo := Lib.hid (contains_s (w.heap.size + 1) k D P uo _ uc (mustS cs f) w10 (SetM.below HPj.out HK10.out) hus (fun s hs => HQ.out.2.2.1 f s hs))
            obtain ⟨cb, hcb⟩ : ∃ b, (mustS cs f).all (memB P) = b := ⟨_, rfl⟩
            rw [hcb] at hask HCo
            clear hb hou hus hal2 hcb HK9 HK8
            go_wp2_with fail
            refine HCo.out.mono ?_
            rintro e w11 ⟨rfl, rfl⟩
            cases cb
            · have HR := Lib.hid (HTf.out hask)
              go_wp2_with fail
              go_ret
              exact ⟨by rw [HR.out]; rfl, HB10.out⟩
            · have HAk := Lib.hid (HTt.out hask)
              clear hask
              go_wp2_with fail
              refine (HMa.out f _ (by omega) HB10.out).mono ?_
              rintro e w12 ⟨u, rfl, hou, hb⟩
              obtain ⟨mo, mcap, rfl, hms⟩ := strs_own hou rfl
              have hml := HQ.out.2.1 f
              have hmz := Lib.hid (HQ.out.2.2.2 f)
              obtain ⟨M, hM⟩ : ∃ M, mayS cs f = M := ⟨_, rfl⟩
              rw [hM] at hms hml hmz HTa ⊢
              have HK12 := Lib.hid (HK10.out.trans (hb.mono HK10.out.size))
              have HS12 := Lib.hid hms
              have HG12 := Lib.hid (SetM.below HGj.out HK12.out)
              have HP12 := Lib.hid (SetM.below HPj.out HK12.out)
              have HC12 := Lib.hid (HCj.out.below HK12.out)
              have HM12 := Lib.hid (And.intro (cell_later hb m0) (cell_later hb m1))
              have HB12 := Lib.hid (show Below w.heap.size w w12 ∧ ma < w12.heap.size from ⟨HB10.out.trans (hb.mono HB10.out.size), Nat.lt_of_lt_of_le HBj.out.2 HK12.out.size⟩)
              clear hb hou hms hM m0 m1 HK10 HB10 HGj HPj HCj HMj HBj HB9 HB8 HCo hsz8
              have hNb : N ≤ 12800000001 := by omega
              go_wp2_with fail
              go_loopw [15, 58] (fun s15 i wz => ∃ (q : Nat) (D2 : DataW Unit), q ≤ M.length ∧ i = .int .i64 q ∧ Hid (SetM wz ma (N + q) D2 (allowL cs (C.take j) ++ M.take q)) ∧ Hid (SetM wz (w.heap.size + 1) k D P) ∧ Hid (StrsAt wz mo M.length mcap M) ∧ Hid (StrsAt wz (some ⟨g, off, none⟩) cn cc C) ∧ Hid (wz.cell? ⟨w.heap.size, 0, none⟩ = some (.map mt) ∧ wz.cell? ⟨w.heap.size, 1, none⟩ = some (.map mc)) ∧ Hid (Below w.heap.size w wz ∧ ma < wz.heap.size)) (fun _ i _ => M.length - (intOf i).toNat)
              case atStart => exact ⟨0, D', Nat.zero_le _, rfl, Lib.hid (by rw [List.take_zero, List.append_nil]; exact HG12.out), HP12, HS12, HC12, HM12, HB12⟩
              case round =>
                clear HG12 HP12 HS12 HC12 HM12 HB12
                obtain ⟨q, D2, hq, rfl, HGz, HPz, HSz, HCz, HMz, HBz⟩ := hrel
                by_cases hlt3 : q < M.length
                · obtain ⟨g2, off2, e, hg2, hc2⟩ := HSz.out.2.2.2 (by omega)
                  subst e
                  have hcell2 := hc2 q hlt3
                  clear hc2
                  have hys := hmz.out _ (part_mem M q hlt3)
                  have HTq := Lib.hid (show M.take (q + 1) = M.take q ++ [partAt M q] from take_snoc M q hlt3)
                  obtain ⟨y, hy⟩ : ∃ x, partAt M q = x := ⟨_, rfl⟩
                  rw [hy] at hcell2 hys HTq
                  clear hy
                  obtain ⟨w', hrun, HG', hgr⟩ := HGz.out.store y (by unfold maxLen; omega) (by unfold maxLen; omega)
                  have HG2 := Lib.hid HG'
                  have HS2 := Lib.hid (strs_turned HSz.out HGz.out hgr)
                  have HC2 := Lib.hid (strs_turned HCz.out HGz.out hgr)
                  have HP2 := Lib.hid (HPz.out.kept hgr (by intro e; have := Option.some.inj e; omega))
                  have HM2 := Lib.hid (And.intro (cell_turned HMz.out.1 hgr (by show w.heap.size ≠ ma; omega)) (cell_turned HMz.out.2 hgr (by show w.heap.size ≠ ma; omega)))
                  have HB2 := Lib.hid (And.intro (HBz.out.1.grown hgr (by have := HBz.out.2; omega) (fun j hj => by have := Option.some.inj hj; omega)) (Nat.lt_of_lt_of_le HBz.out.2 hgr.size))
                  clear HG' hgr
                  have d3 : (q : Int) < (M.length : Int) := by omega
                  go_wp2_with fail
                  go_roundw
                  case rel => exact ⟨q + 1, _, by omega, by go_num, Lib.hid (by rw [HTq.out, ← List.append_assoc, ← Nat.add_assoc]; exact HG2.out), HP2, HS2, HC2, HM2, HB2⟩
                  case measure => simp [intOf]; omega
                · obtain rfl : q = M.length := by omega
                  rw [List.take_length] at HGz
                  have d3 : ¬ (M.length : Int) < (M.length : Int) := by omega
                  go_wp2_with fail
                  go_roundw
                  case rel => exact ⟨j + 1, N + M.length, D2, by omega, by go_num, by omega, HAk, Lib.hid (by rw [HTa.out]; exact HGz.out), HPz, HCz, HMz, HBz⟩
                  case measure => simp [intOf]; omega
        · obtain rfl : j = cn := by omega
          rw [List.take_of_length_le (by omega)] at HGj HA
          have d2 : ¬ (j : Int) < (j : Int) := by omega
          have hlook := HPj.out.look classN (by decide)
          have HE2 := Lib.hid (show R = (memB P classN && P.all (memB (allowL cs C))) from HE.out.trans (by rw [HA.out]; rfl))
          obtain ⟨pc, hpc⟩ : ∃ b, memB P classN = b := ⟨_, rfl⟩
          rw [hpc] at hlook HE2
          unfold classN at hlook
          clear hpc
          cases pc
          · have HE3 := Lib.hid (show R = false from HE2.out.trans rfl)
            go_wp2_with fail
            go_ret
            exact ⟨by rw [HE3.out]; rfl, HBj.out.1⟩
          · have HE3 := Lib.hid (show R = P.all (memB (allowL cs C)) from HE2.out.trans rfl)
            go_wp2_with fail
            refine (HN.out _ HBj.out.1).mono ?_
            rintro e w7 ⟨v, rfl, ⟨o7, n7, c7, rfl, hP7⟩, hb⟩
            have HC7 := Lib.hid (contains_s _ N D' (allowL cs C) o7 n7 c7 P w7 (SetM.below HGj.out hb) hP7 (fun s hs => Nat.le_trans (HPS.out s hs) (by decide)))
            have HB7 := Lib.hid (HBj.out.1.trans (hb.mono HBj.out.1.size))
            clear hb hP7 m0 m1
            go_wp2_with fail
            refine HC7.out.mono ?_
            rintro e w8 ⟨rfl, rfl⟩
            go_wp2_with fail
            go_ret
            exact ⟨by rw [HE3.out]; rfl, HB7.out⟩
end Go.Proofs.YtmmdaegdkikkpaaGreatDoor
end

section
/-
  Contract of schema's Valid. Condition: few attributes, names of at most 1000000000 bytes.
-/
set_option maxRecDepth 100000
namespace Go.Proofs.YtmmdaegdkikkpaaGreatDoor
open Go.RowKit Go.PlainAid Go.Maps
def vldE (T : List Ty) (cs : List Cl) (l : List At) : Int :=
  if chkA l ≠ 0 then chkA l else if firstE (fun j => chkAt T (atD l j)) l.length ≠ 0 then firstE (fun j => chkAt T (atD l j)) l.length else if fitsB cs l = true then 0 else 9
/-- attributes that are few in every way -/
structure FewE (l : List At) : Prop where
  few : Few l
  fewV : FewV l
  vals : (vals l (lowS classN)).length ≤ 100000 ∧ ∀ v ∈ vals l (lowS classN), v.size ≤ 1000000
  names : (names l).length ≤ 1000
set_option maxHeartbeats 16000000 in
theorem validF_s (v : Value) (ts : List Ty) (cs : List Cl) (en : ByteArray) (ao : Option Addr) (n cap : Nat) (l : List At) (w : World) (h : SchV w v ts cs) (hl : AttrsAt w ao n cap l) (hF : FewE l) (ho : IntOk w) :
    Calls Tryz.prog 50 #[v, .agg #[.string en, .slice ao n cap]] w fun e w' => e = .returned (.int .i64 (vldE (soundT ts cs) (soundC ts cs) l)) ∧ Below w.heap.size w w' := by
  have h' := h
  obtain ⟨so, k0, scap, bo, m0, dap, rfl, _, _, _, hz⟩ := h'
  have HZ := Lib.hid (smC_sound (ts := ts) hz)
  have hb0 : Below w.heap.size w ((w.alloc (.cells #[.slice so k0 scap, .slice bo m0 dap] 25)).alloc (.cells #[.string en, .slice ao n cap] 37)) := ((Below.refl _ _).alloc (Nat.le_refl _) _).alloc (by simp) _
  have hbw : Below w.heap.size w ((w.alloc (.cells #[.slice so k0 scap, .slice bo m0 dap] 25)).alloc (.cells #[.string en, .slice ao n cap] 37)) := hb0
  have HB0 := Lib.hid hb0
  have HCk := Lib.hid (check_s ao n cap l _ (hl.below hb0) hF.few.small hF.fewV)
  have HAcc := Lib.hid (fun (W : World) (hW : Below w.heap.size w W) => accepted_s _ ts cs W (h.below hW))
  have HL := Lib.hid hl
  have HO := Lib.hid ho
  have HF := Lib.hid hF
  have hln := hl.1
  have hcap := hl.2.1
  have hmx := hl.2.2.1
  unfold maxLen at hmx
  have hE : vldE (soundT ts cs) (soundC ts cs) l = if chkA l ≠ 0 then chkA l else if firstE (fun j => chkAt (soundT ts cs) (atD l j)) l.length ≠ 0 then firstE (fun j => chkAt (soundT ts cs) (atD l j)) l.length else if fitsB (soundC ts cs) l = true then 0 else 9 := rfl
  obtain ⟨R, hR⟩ : ∃ R, vldE (soundT ts cs) (soundC ts cs) l = R := ⟨_, rfl⟩
  obtain ⟨ce, hce⟩ : ∃ c, chkA l = c := ⟨_, rfl⟩
  rw [hR, hce] at hE
  rw [hR]
  rw [hce] at HCk
  have HE := Lib.hid hE
  clear h hb0 hbw hl hF hz hR hce hE ho
  go_enter Tryz.func50, Tryz.ntmps50
  go_wp2_with fail
  refine HCk.out.mono ?_
  rintro e w1 ⟨rfl, hb⟩
  have q0 : w1.cell? ⟨w.heap.size, 0, none⟩ = some (.slice so k0 scap) := cell_later hb (by go_simp)
  have q1 : w1.cell? ⟨w.heap.size, 1, none⟩ = some (.slice bo m0 dap) := cell_later hb (by go_simp)
  have q2 : w1.cell? ⟨w.heap.size + 1, 1, none⟩ = some (.slice ao n cap) := cell_later hb (by go_simp)
  have HB1 := Lib.hid (show Below w.heap.size w w1 ∧ w.heap.size + 1 < w1.heap.size from ⟨HB0.out.trans (hb.mono (by simp; omega)), by have := hb.size; simp at this; omega⟩)
  clear hb HB0 HCk
  by_cases hc : ce = 0
  · subst hc
    have HE1 := Lib.hid (show R = if firstE (fun j => chkAt (soundT ts cs) (atD l j)) l.length ≠ 0 then firstE (fun j => chkAt (soundT ts cs) (atD l j)) l.length else if fitsB (soundC ts cs) l = true then 0 else 9 from HE.out.trans (if_neg (by simp)))
    go_wp2_with fail
    refine (HAcc.out w1 HB1.out.1).mono ?_
    rintro e w2 ⟨tv, rfl, ⟨m1, m2, rfl, hT, hC⟩, hb⟩
    have q2 := cell_later hb q2
    have HB2 := Lib.hid (show Below w.heap.size w w2 ∧ w.heap.size + 1 < w2.heap.size from ⟨HB1.out.1.trans (hb.mono HB1.out.1.size), Nat.lt_of_lt_of_le HB1.out.2 hb.size⟩)
    have hsz2 := HB2.out.2
    have hal := (Below.refl w2.heap.size w2).alloc (Nat.le_refl _) (.cells #[.map m1, .map m2] 130)
    have HI := Lib.hid (show (w2.alloc (.cells #[.map m1, .map m2] 130)).cell? ⟨w2.heap.size, 0, none⟩ = some (.map m1) ∧ (w2.alloc (.cells #[.map m1, .map m2] 130)).cell? ⟨w2.heap.size, 1, none⟩ = some (.map m2) ∧ (w2.alloc (.cells #[.map m1, .map m2] 130)).cell? ⟨w.heap.size + 1, 1, none⟩ = some (.slice ao n cap) from ⟨by go_simp, by go_simp, cell_later hal q2⟩)
    have HT := Lib.hid (And.intro hT hC)
    have HB3 := Lib.hid (show Below w.heap.size w (w2.alloc (.cells #[.map m1, .map m2] 130)) ∧ Below w2.heap.size w2 (w2.alloc (.cells #[.map m1, .map m2] 130)) from ⟨HB2.out.1.trans (hal.mono HB2.out.1.size), hal⟩)
    clear hb hT hC HAcc hal q0 q1 HB1
    go_wp2_with fail
    go_loopw [8, 9, 21] (fun s8 s9 i wr => ∃ (j : Nat), j ≤ n ∧ i = .int .i64 j ∧ Hid (∀ q, q < j → chkAt (soundT ts cs) (atD l q) = 0) ∧ Hid (wr.cell? ⟨w2.heap.size, 0, none⟩ = some (.map m1) ∧ wr.cell? ⟨w2.heap.size, 1, none⟩ = some (.map m2) ∧ wr.cell? ⟨w.heap.size + 1, 1, none⟩ = some (.slice ao n cap)) ∧ Hid (Below w.heap.size w wr ∧ Below w2.heap.size w2 wr ∧ w2.heap.size < wr.heap.size)) (fun _ _ i _ => n - (intOf i).toNat)
    case atStart => exact ⟨0, Nat.zero_le _, rfl, Lib.hid (fun q hq => absurd hq (Nat.not_lt_zero _)), HI, Lib.hid ⟨HB3.out.1, HB3.out.2, by simp⟩⟩
    case round =>
      clear HI HB3 q2
      obtain ⟨j, hj, rfl, HA, HI, HB⟩ := hrel
      obtain ⟨i0, i1, i2⟩ := HI.out
      by_cases hlt : j < n
      · have hj1 : j + 1 ≤ n := hlt
        have HJ := Lib.hid hlt
        obtain ⟨b, off, e, hbl, hat⟩ := HL.out.2.2.2 (by omega)
        subst e
        obtain ⟨c0, vo, vn, vc, c1, hv⟩ := (hat j hlt)
        have hsm := HF.out.few.small _ (at_mem l j (by omega))
        obtain ⟨a, ha⟩ : ∃ a, atD l j = a := ⟨_, rfl⟩
        rw [ha] at c0 hv hsm
        have c0 := cell_later HB.out.1 c0
        have c1 := cell_later HB.out.1 c1
        have hsz := HB.out.2.2
        have hsz3 : w.heap.size + 1 < wr.heap.size := by omega
        have hal := (Below.refl wr.heap.size wr).alloc (Nat.le_refl _) (.cells #[.string a.1, .slice vo vn vc] 58)
        have hBa := HB.out.1.trans (hal.mono HB.out.1.size)
        have HC := Lib.hid (checkAttr_s m1 m2 (soundT ts cs) a vo vn vc _ (HT.out.1.below (HB.out.2.1.trans (hal.mono HB.out.2.1.size))) (hv.below hBa) hsm.1 hsm.2 (HO.out.below hBa))
        have HBA := Lib.hid hBa
        have HI1 := Lib.hid (And.intro (cell_later hal i0) (And.intro (cell_later hal i1) (cell_later hal i2)))
        have HW1 := Lib.hid (show Below w2.heap.size w2 (wr.alloc (.cells #[.string a.1, .slice vo vn vc] 58)) from HB.out.2.1.trans (hal.mono HB.out.2.1.size))
        have HAa := Lib.hid ha
        obtain ⟨ev, hev⟩ : ∃ e, chkAt (soundT ts cs) a = e := ⟨_, rfl⟩
        rw [hev] at HC
        have HEV := Lib.hid hev
        have d1 : (j : Int) < (n : Int) := by omega
        clear hal hBa hv ha hev
        go_wp2_with fail
        refine HC.out.mono ?_
        rintro e w3 ⟨rfl, hb⟩
        have HI3 := Lib.hid (And.intro (cell_later hb HI1.out.1) (And.intro (cell_later hb HI1.out.2.1) (cell_later hb HI1.out.2.2)))
        have HB3 := Lib.hid (show Below w.heap.size w w3 ∧ Below w2.heap.size w2 w3 ∧ w2.heap.size < w3.heap.size from ⟨HBA.out.trans (hb.mono HBA.out.size), HW1.out.trans (hb.mono HW1.out.size), by have := hb.size; simp at this; omega⟩)
        clear hb HC i0 i1 i2 c0 c1 HI1 HBA HW1
        by_cases he : ev = 0
        · subst he
          go_wp2_with fail
          go_roundw
          case rel =>
            refine ⟨j + 1, HJ.out, by go_num, Lib.hid fun q hq => ?_, HI3, HB3⟩
            rcases Nat.lt_or_ge q j with h | h
            · exact HA.out q h
            · obtain rfl : q = j := by omega
              rw [HAa.out]; exact HEV.out
          case measure => have hJ := HJ.out; simp [intOf]; omega
        · have hfe : firstE (fun j => chkAt (soundT ts cs) (atD l j)) l.length = ev := by
            rw [firstE_hit (k := j) HA.out (by show chkAt (soundT ts cs) (atD l j) ≠ 0; rw [HAa.out, HEV.out]; exact he) (by omega)]
            show chkAt (soundT ts cs) (atD l j) = ev
            rw [HAa.out]; exact HEV.out
          have HE2 := Lib.hid (show R = ev from HE1.out.trans (by rw [hfe, if_pos he]))
          clear hfe
          go_wp2_with fail
          go_ret
          exact ⟨by rw [HE2.out]; rfl, HB3.out.1⟩
      · obtain rfl : j = n := by omega
        have d1 : ¬ (j : Int) < (j : Int) := by omega
        have hfe : firstE (fun j => chkAt (soundT ts cs) (atD l j)) l.length = 0 := firstE_zero (fun q hq => HA.out q (by omega))
        have HE2 := Lib.hid (show R = if fitsB (soundC ts cs) l = true then 0 else 9 from HE1.out.trans (by rw [hfe, if_neg (by simp)]))
        obtain ⟨fb, hfb⟩ : ∃ b, fitsB (soundC ts cs) l = b := ⟨_, rfl⟩
        have HC := Lib.hid (fits_s m1 m2 w2 (soundC ts cs) ao j cap l _ HB.out.2.1 (HT.out.2.below HB.out.2.1) (sound_soundC ts cs) (Nat.le_trans (soundC_len ts cs) (by decide)) HZ.out (fewC_sound ts cs) (HL.out.below HB.out.1) HF.out.few HF.out.vals HF.out.names)
        rw [hfb] at HE2 HC
        clear hfe hfb
        go_wp2_with fail
        refine HC.out.mono ?_
        rintro e w3 ⟨rfl, hb⟩
        have HB3 := Lib.hid (HB.out.1.trans (hb.mono HB.out.1.size))
        clear hb HC i0 i1 i2
        cases fb
        · have HE3 := Lib.hid (show R = 9 from HE2.out.trans (by simp))
          go_wp2_with fail
          go_ret
          exact ⟨by rw [HE3.out]; rfl, HB3.out⟩
        · have HE3 := Lib.hid (show R = 0 from HE2.out.trans (by simp))
          go_wp2_with fail
          go_ret
          exact ⟨by rw [HE3.out]; rfl, HB3.out⟩
  · have HE1 := Lib.hid (show R = ce from HE.out.trans (if_pos hc))
    go_wp2_with fail
    go_ret
    exact ⟨by rw [HE1.out]; rfl, HB1.out.1⟩
end Go.Proofs.YtmmdaegdkikkpaaGreatDoor
end
