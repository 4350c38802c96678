/-
  Texts of the schema layer and of those beneath it, joined: ChgAw0. Conditions stand at each contract.
-/
import Derived.Test.YtbkignlbcneddaaGreatDoorX20
import Derived.Test.YtbkignlbcneddaaGreatDoorX24
import Derived.Test.YtbkignlbcneddaaGreatDoorX25
import Derived.Test.YtbkignlbcneddaaGreatDoorX26
set_option linter.unusedVariables false
set_option linter.unusedSimpArgs false
set_option linter.unnecessarySimpa false

section
/-
  Pure facts of the law's examples. No condition.
-/
set_option maxRecDepth 100000
namespace Go.Proofs.YtbkignlbcneddaaGreatDoor
open Go.RowKit Go.PlainAid
open Csn (Cn cnV cnB KbC kbc_new box_below box_lt parEC parVC vldC fmtS TzOk CnsAt)
def aN : Cn := (5, 1, 0)
def aM : Cn := (3, 0, 0)
def aId : ByteArray := fmtS aM
def rDrop (id : ByteArray) : Chg := ⟨aN, 5, id, ⟨#[]⟩, ⟨#[99, 110]⟩, ⟨#[97, 32, 98]⟩⟩
def rFirst (id : ByteArray) : Chg := ⟨aM, 2, id, ⟨#[]⟩, ⟨#[]⟩, ⟨#[]⟩⟩
def rBad (id : ByteArray) : Chg := ⟨aM, 2, id, ⟨#[]⟩, ⟨#[]⟩, ⟨#[97]⟩⟩
def rEmpty (id : ByteArray) : Chg := ⟨aN, 5, id, ⟨#[]⟩, ⟨#[99, 110]⟩, ⟨#[]⟩⟩
abbrev aDrop : Chg := rDrop aId
abbrev aFirst : Chg := rFirst aId
abbrev aBad : Chg := rBad aId
abbrev aEmpty : Chg := rEmpty aId
def attA : List At := [(⟨#[99, 110]⟩, [⟨#[97]⟩])]
def attB : List At := [(⟨#[99, 110]⟩, [⟨#[98]⟩])]
def edG (id : ByteArray) : List Chg := [⟨(0, 0, 0), 5, id, ⟨#[]⟩, ⟨#[99, 110]⟩, ⟨#[97]⟩⟩, ⟨(0, 0, 0), 4, id, ⟨#[]⟩, ⟨#[99, 110]⟩, ⟨#[98]⟩⟩]
theorem aw1 : chkG aDrop = 0 := by decide +kernel
theorem aw2 : lnV aDrop = (((⟨#[100, 114, 111, 112, 32]⟩ : ByteArray) ++ fmtS aN) ++ ⟨#[32]⟩ ++ aId) ++ ⟨#[32, 99, 110, 32, 97, 37, 50, 48, 98]⟩ := by decide +kernel
theorem aw3 : chkG aBad = 4 := by decide +kernel
theorem aw4 : chkG aEmpty = 8 := by decide +kernel
theorem aw5 : (rdG ⟨#[120, 10]⟩).2.1 = 1 ∧ (rdG ⟨#[120, 10]⟩).2.2 = 4 := by decide +kernel
theorem aw6 : vecG [aDrop, aFirst] = [aN] := by decide +kernel
theorem aw7 : sinceG [aDrop, aFirst] [aN] = [] := by decide +kernel
theorem aw8 : editsG aId attA attB = edG aId := by decide +kernel
theorem aw9 : mergeG [aDrop, aFirst] [aFirst] = [aFirst, aDrop] := by decide +kernel
theorem aw10 : aId.size ≤ 22 := by decide +kernel
theorem small_dec {l : List ByteArray} (h : l.all (fun v => decide (v.size ≤ 1000)) = true) : SmallS l := fun v hv => by
  have := List.all_eq_true.1 h v hv
  have := of_decide_eq_true this
  omega
theorem smallA_dec {l : List At} (h : l.all (fun a => decide (a.1.size ≤ 1000) && a.2.all (fun v => decide (v.size ≤ 1000))) = true) : SmallA l := fun a ha => by
  have := List.all_eq_true.1 h a ha
  rw [Bool.and_eq_true] at this
  exact ⟨by have := of_decide_eq_true this.1; omega, small_dec this.2⟩
theorem few_dec {l : List At} (h : (l.all (fun a => decide (a.1.size ≤ 1000) && a.2.all (fun v => decide (v.size ≤ 1000))) && decide (sumV l ≤ 1000) && decide (l.length ≤ 40)) = true) : Few l := by
  rw [Bool.and_eq_true, Bool.and_eq_true] at h
  exact ⟨smallA_dec h.1.1, by have := of_decide_eq_true h.1.2; omega, by have := of_decide_eq_true h.2; omega⟩
theorem few_a : Few attA := few_dec (by decide +kernel)
theorem few_b : Few attB := few_dec (by decide +kernel)
theorem sum_a : sumV attA ≤ 100000 := by decide +kernel
theorem sum_b : sumV attB ≤ 100000 := by decide +kernel
theorem strs_one (w : World) (a : ByteArray) : StrsAt (w.alloc (.cells #[.string a] 9)) (some ⟨w.heap.size, 0, none⟩) 1 1 [a] :=
  ⟨rfl, Nat.le_refl _, by decide, fun _ => ⟨_, 0, rfl, by simp, fun j hj => by
    have hj' : j = 0 := by simp at hj; omega
    subst hj'
    exact Csn.KbC.cell (kbc_new w _) rfl⟩⟩
/-- a slice of one attribute with one value, as a literal lays it -/
theorem atts_one (w : World) (n a : ByteArray) : AttrsAt ((w.alloc (.cells #[.string a] 9)).alloc (.cells #[.string n, .slice (some ⟨w.heap.size, 0, none⟩) 1 1] 60)) (some ⟨w.heap.size + 1, 0, none⟩) 1 1 [(n, [a])] :=
  have hb := kbc_new (w.alloc (.cells #[.string a] 9)) (.cells #[.string n, .slice (some ⟨w.heap.size, 0, none⟩) 1 1] 60)
  ⟨rfl, Nat.le_refl _, by decide, fun _ => ⟨_, 0, rfl, by simp, fun j hj => by
    have hj' : j = 0 := by omega
    subst hj'
    rw [World.size_alloc] at hb
    exact ⟨Csn.KbC.cell hb rfl, _, _, _, Csn.KbC.cell hb rfl, (strs_one w a).below (box_below _ _)⟩⟩⟩
/-- a slice of records that a literal lays -/
theorem chs_new (w : World) (l : List Chg) (h : l.length ≤ maxLen) : ChsAt (w.alloc (.cells (chcells l).toArray 26)) (some ⟨w.heap.size, 0, none⟩) l.length l.length l :=
  ⟨rfl, Nat.le_refl _, h, fun _ => ⟨w.heap.size, 0, rfl, by simp, fun j hj k hk => by
    rw [Nat.zero_add, ← chcells_at l j k hj hk]
    have hb := heap_alloc_new w (.cells (chcells l).toArray 26)
    unfold World.cell?
    simp only [hb]
    simp⟩, fun e => by cases e⟩
theorem chs_two (w : World) (g h : Chg) : ChsAt (w.alloc (.cells (gcells g ++ gcells h).toArray 26)) (some ⟨w.heap.size, 0, none⟩) 2 2 [g, h] := by
  have := chs_new w [g, h] (show 2 ≤ maxLen by decide)
  rw [show chcells [g, h] = gcells g ++ gcells h by simp [chcells]] at this
  exact this
theorem chs_one (w : World) (g : Chg) : ChsAt (w.alloc (.cells (gcells g).toArray 26)) (some ⟨w.heap.size, 0, none⟩) 1 1 [g] := by
  have := chs_new w [g] (show 1 ≤ maxLen by decide)
  rw [show chcells [g] = gcells g by simp [chcells]] at this
  exact this
theorem line_k (t s r o : Int) (id nm ak vl x : ByteArray) (z : Int) (w : World) (hz : SmG ⟨(t, s, r), o, id, nm, ak, vl⟩) (ho : COk w) (hx : lnV ⟨(t, s, r), o, id, nm, ak, vl⟩ = x) (hc : chkG ⟨(t, s, r), o, id, nm, ak, vl⟩ = z) :
    Calls Tryz.prog 13 #[.agg #[.int .i64 t, .int .i64 s, .int .i64 r, .int .i64 o, .string id, .string nm, .string ak, .string vl]] w fun e w' => e = .returned (.tuple #[.string x, .int .i64 z]) ∧ Below w.heap.size w w' := by
  subst hx hc; exact lineE_s ⟨(t, s, r), o, id, nm, ak, vl⟩ w hz ho
theorem chk_k (t s r o : Int) (id nm ak vl : ByteArray) (z : Int) (w : World) (hz : SmG ⟨(t, s, r), o, id, nm, ak, vl⟩) (ho : MaxOk w) (hc : chkG ⟨(t, s, r), o, id, nm, ak, vl⟩ = z) :
    Calls Tryz.prog 17 #[.agg #[.int .i64 t, .int .i64 s, .int .i64 r, .int .i64 o, .string id, .string nm, .string ak, .string vl]] w fun e w' => e = .returned (.int .i64 z) ∧ Below w.heap.size w w' := by
  subst hc; exact chkg_s ⟨(t, s, r), o, id, nm, ak, vl⟩ w hz ho
theorem vec_k (ao : Option Addr) (n cap : Nat) (l : List Chg) (c : List Cn) (q : Nat) (w : World) (h : ChsAt w ao n cap l) (hn : n ≤ 1000000) (hc : vecG l = c) (hq : c.length = q) :
    Calls Tryz.prog 29 #[.slice ao n cap] w fun e w' => ∃ vo vc, e = .returned (.slice vo q vc) ∧ CnsAt w' vo q vc c ∧ Below w.heap.size w w' := by
  subst hc hq
  exact (vector_s ao n cap l w h hn).mono fun e w' ⟨vo, m, vc, he, hv, hb⟩ => by
    have := hv.1
    subst this
    exact ⟨vo, vc, he, hv, hb⟩
theorem since_k (ao : Option Addr) (n cap : Nat) (l : List Chg) (vo : Option Addr) (vn vc : Nat) (cs : List Cn) (r : List Chg) (q : Nat) (w : World) (h : ChsAt w ao n cap l) (hv : CnsAt w vo vn vc cs) (hn : n ≤ 1000000) (hr : sinceG l cs = r) (hq : r.length = q) :
    Calls Tryz.prog 26 #[.slice ao n cap, .slice vo vn vc] w fun e w' => ∃ xo xc, e = .returned (.slice xo q xc) ∧ ChsAt w' xo q xc r ∧ Below w.heap.size w w' := by
  subst hr hq
  exact (since_s ao n cap l vo vn vc cs w h hv hn).mono fun e w' ⟨v, he, hv, hb⟩ => by
    obtain ⟨xo, xc, rfl, hx⟩ := chs_of_owns hv
    exact ⟨xo, xc, he, hx, hb⟩
theorem edits_k (id : ByteArray) (ao bo : Option Addr) (n m cap dap : Nat) (l k : List At) (r : List Chg) (q : Nat) (w : World) (h : AttrsAt w ao n cap l) (hk : AttrsAt w bo m dap k) (hF : Few l) (hG : Few k) (hv : sumV l ≤ 100000) (hu : sumV k ≤ 100000) (hr : editsG id l k = r) (hq : r.length = q) :
    Calls Tryz.prog 32 #[.string id, .slice ao n cap, .slice bo m dap] w fun e w' => ∃ xo xc, e = .returned (.slice xo q xc) ∧ ChsAt w' xo q xc r ∧ Below w.heap.size w w' := by
  subst hr hq
  exact (chedits_s id ao bo n m cap dap l k w h hk hF hG hv hu).mono fun e w' ⟨v, he, hv, hb⟩ => by
    obtain ⟨xo, xc, rfl, hx⟩ := chs_of_owns hv
    exact ⟨xo, xc, he, hx, hb⟩
theorem merge_k (ao bo : Option Addr) (n m cap dap : Nat) (a b r : List Chg) (q : Nat) (w : World) (h : ChsAt w ao n cap a) (k : ChsAt w bo m dap b) (hz : ∀ d ∈ a ++ b, SmG d ∧ cnDom d.c) (hn : n ≤ 10000) (hm : m ≤ 10000) (ho : COk w) (hr : mergeG a b = r) (hq : r.length = q) :
    Calls Tryz.prog 24 #[.slice ao n cap, .slice bo m dap] w fun e w' => ∃ xo xc, e = .returned (.slice xo q xc) ∧ ChsAt w' xo q xc r ∧ Below w.heap.size w w' := by
  subst hr hq
  exact (chmerge_s ao bo n m cap dap a b w h k hz hn hm ho).mono fun e w' ⟨xo, q', xc, he, hx, hb⟩ => by
    have := hx.1
    subst this
    exact ⟨xo, xc, he, hx, hb⟩
theorem read_k (s : ByteArray) (a b : Int) (w : World) (hs : s.size ≤ 1000000) (ho : COk w) (ha : (rdG s).2.1 = a) (hb : (rdG s).2.2 = b) :
    Calls Tryz.prog 21 #[.string s] w fun e w' => ∃ xo xc, e = .returned (.tuple #[.slice xo (rdG s).1.length xc, .int .i64 a, .int .i64 b]) ∧ ChsAt w' xo (rdG s).1.length xc (rdG s).1 ∧ Below w.heap.size w w' := by
  subst ha hb
  exact (chread_s s w hs ho).mono fun e w' ⟨v, he, hv, hb⟩ => by
    obtain ⟨xo, xc, rfl, hx⟩ := chs_of_owns hv
    exact ⟨xo, xc, he, hx, hb⟩
/-- the boxes of awake -/
structure AwG (w : World) (q : Nat) (id : ByteArray) (V : World) : Prop where
  low : Below w.heap.size w V
  ok : COk V
  k1 : KbC V w.heap.size (.cells #[.int .i64 5, .int .i64 1, .int .i64 0] 23)
  k3 : KbC V q (chB (rDrop id))
  k4 : KbC V (q + 1) (chB (rFirst id))
  k5 : KbC V (q + 1 + 1) (chB (rBad id))
  k6 : KbC V (q + 1 + 1 + 1) (chB (rEmpty id))
theorem AwG.step {w V X : World} {q : Nat} {id : ByteArray} (h : AwG w q id V) (hb : Below V.heap.size V X) : AwG w q id X :=
  ⟨h.low.trans (hb.mono h.low.size), h.ok.step hb, Csn.KbC.step h.k1 hb, Csn.KbC.step h.k3 hb, Csn.KbC.step h.k4 hb, Csn.KbC.step h.k5 hb, Csn.KbC.step h.k6 hb⟩
theorem awg_new {w w1 : World} {id : ByteArray} (hb : Below w.heap.size w w1) (ho : COk w1) (h1 : KbC w1 w.heap.size (.cells #[.int .i64 5, .int .i64 1, .int .i64 0] 23)) :
    AwG w w1.heap.size id ((((w1.alloc (chB (rDrop id))).alloc (chB (rFirst id))).alloc (chB (rBad id))).alloc (chB (rEmpty id))) := by
  have b1 := box_below w1 (chB (rDrop id))
  have b2 := box_below (w1.alloc (chB (rDrop id))) (chB (rFirst id))
  have b3 := box_below ((w1.alloc (chB (rDrop id))).alloc (chB (rFirst id))) (chB (rBad id))
  have b4 := box_below (((w1.alloc (chB (rDrop id))).alloc (chB (rFirst id))).alloc (chB (rBad id))) (chB (rEmpty id))
  have t := ((b1.trans (b2.mono b1.size)).trans (b3.mono (Nat.le_trans b1.size b2.size))).trans (b4.mono (Nat.le_trans b1.size (Nat.le_trans b2.size b3.size)))
  have q3 := kbc_new w1 (chB (rDrop id))
  have q4 := kbc_new (w1.alloc (chB (rDrop id))) (chB (rFirst id))
  have q5 := kbc_new ((w1.alloc (chB (rDrop id))).alloc (chB (rFirst id))) (chB (rBad id))
  have q6 := kbc_new (((w1.alloc (chB (rDrop id))).alloc (chB (rFirst id))).alloc (chB (rBad id))) (chB (rEmpty id))
  rw [World.size_alloc] at q4
  rw [World.size_alloc, World.size_alloc] at q5
  rw [World.size_alloc, World.size_alloc, World.size_alloc] at q6
  exact ⟨hb.trans (t.mono hb.size), ho.step t, Csn.KbC.step h1 t, Csn.KbC.step (Csn.KbC.step (Csn.KbC.step q3 b2) b3) b4, Csn.KbC.step (Csn.KbC.step q4 b3) b4, Csn.KbC.step q5 b4, q6⟩
theorem box8 {V : World} {q : Nat} {t s r o : Int} {id nm ak vl : ByteArray} (h : KbC V q (chB ⟨(t, s, r), o, id, nm, ak, vl⟩)) :
    V.cell? ⟨q, 0, none⟩ = some (.int .i64 t) ∧ V.cell? ⟨q, 1, none⟩ = some (.int .i64 s) ∧ V.cell? ⟨q, 2, none⟩ = some (.int .i64 r) ∧ V.cell? ⟨q, 3, none⟩ = some (.int .i64 o) ∧
    V.cell? ⟨q, 4, none⟩ = some (.string id) ∧ V.cell? ⟨q, 5, none⟩ = some (.string nm) ∧ V.cell? ⟨q, 6, none⟩ = some (.string ak) ∧ V.cell? ⟨q, 7, none⟩ = some (.string vl) :=
  ⟨Csn.KbC.cell h rfl, Csn.KbC.cell h rfl, Csn.KbC.cell h rfl, Csn.KbC.cell h rfl, Csn.KbC.cell h rfl, Csn.KbC.cell h rfl, Csn.KbC.cell h rfl, Csn.KbC.cell h rfl⟩
theorem box3 {V : World} {q : Nat} {t s r : Int} (h : KbC V q (.cells #[.int .i64 t, .int .i64 s, .int .i64 r] 23)) :
    V.cell? ⟨q, 0, none⟩ = some (.int .i64 t) ∧ V.cell? ⟨q, 1, none⟩ = some (.int .i64 s) ∧ V.cell? ⟨q, 2, none⟩ = some (.int .i64 r) :=
  ⟨Csn.KbC.cell h rfl, Csn.KbC.cell h rfl, Csn.KbC.cell h rfl⟩
theorem id_small : aId.size ≤ 22 := aw10
theorem sm_of {t s r o : Int} {id nm ak vl : ByteArray} (h : id.size ≤ 22) (h1 : nm.size ≤ 22) (h2 : ak.size ≤ 22) (h3 : vl.size ≤ 22) : SmG ⟨(t, s, r), o, id, nm, ak, vl⟩ :=
  ⟨by show id.size ≤ _; omega, by show nm.size ≤ _; omega, by show ak.size ≤ _; omega, by show vl.size ≤ _; omega⟩
end Go.Proofs.YtbkignlbcneddaaGreatDoor
end
