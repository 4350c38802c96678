/-
  What the law's example asks of pure values, rows kept beside a journal, a journal that is nil. No condition.
-/
import Derived.Test.YtafecnaeoeanmaaDoorJouV
set_option maxRecDepth 100000
set_option linter.unusedVariables false
set_option linter.unusedSimpArgs false
set_option linter.unnecessarySimpa false
namespace Go.Proofs.YtafecnaeoeanmaaDoor
open Go.RowKit Go.PlainAid

/-- a row kept beside a journal -/
structure RK (W : World) (b : Nat) (v : Value) (base : Nat) (u : Value) (l : List ByteArray) : Prop where
  row : W.ownsRow base 9 1 u l.length (scells l)
  far : ∀ g, u.ownBlock = some g → g ≠ b ∧ v.ownBlock ≠ some g
theorem RK.step {W V : World} {b base : Nat} {v u : Value} {l : List ByteArray} (h : RK W b v base u l) (hb : Below W.heap.size W V) : RK V b v base u l := ⟨own_below h.row hb, h.far⟩
theorem RK.move {W V : World} {b base : Nat} {v v' u : Value} {l : List ByteArray} (h : RK W b v base u l) (hm : Mv b v v' W V) : RK V b v' base u l := by
  refine ⟨own_keep h.row fun g e => hm.block g (h.row.lt g e).2 (h.far g e).1 (h.far g e).2, fun g e => ⟨(h.far g e).1, fun e2 => ?_⟩⟩
  rcases hm.at_ with k | k
  · exact (h.far g e).2 (k ▸ e2)
  · have h1 := k g e2
    have h2 := (h.row.lt g e).2
    omega
/-- a row that was made behind a journal -/
theorem rk_new {W V : World} {B b d : Nat} {me : Value} {t : TypeId} {l l' : List ByteArray} {v u : Value} (h : OA W B b me t l d v) (hrow : V.ownsRow W.heap.size 9 1 u l'.length (scells l')) : RK V b v W.heap.size u l' :=
  ⟨hrow, fun g e => ⟨fun e2 => by
    have := (hrow.lt g e).1
    have := h.blk.big
    omega, fun e2 => by
    have h1 := (hrow.lt g e).1
    have h2 := (h.row.lt g e2).2
    omega⟩⟩
theorem RK.strs {W : World} {b base n cap : Nat} {v : Value} {ao : Option Addr} {l : List ByteArray} (h : RK W b v base (.slice ao n cap) l) (hn : l.length = n) : StrsAt W ao n cap l := by
  obtain ⟨a, c, e, hs⟩ := strs_own h.row rfl
  injection e with e1 e2 e3
  subst e1 e3 e2
  exact hs
theorem StrsAt.keepB {W V : World} {ao : Option Addr} {n cap : Nat} {l : List ByteArray} (h : StrsAt W ao n cap l) (hb : Below W.heap.size W V) : StrsAt V ao n cap l := h.below hb
theorem strs_one (W : World) (a : ByteArray) : StrsAt (W.alloc (.cells #[.string a] 9)) (some ⟨W.heap.size, 0, none⟩) 1 1 [a] :=
  ⟨rfl, Nat.le_refl _, by decide, fun _ => ⟨_, 0, rfl, by simp, fun j hj => by
    have hj' : j = 0 := by simp at hj; omega
    subst hj'
    exact (kbc_new W _).cell rfl⟩⟩
theorem strs_two (W : World) (a c : ByteArray) : StrsAt (W.alloc (.cells #[.string a, .string c] 9)) (some ⟨W.heap.size, 0, none⟩) 2 2 [a, c] :=
  ⟨rfl, Nat.le_refl _, by decide, fun _ => ⟨_, 0, rfl, by simp, fun j hj => by
    have hj' : j = 0 ∨ j = 1 := by simp at hj; omega
    rcases hj' with rfl | rfl
    · exact (kbc_new W _).cell rfl
    · exact (kbc_new W _).cell rfl⟩⟩
theorem append_nil (r : ByteArray) (w : World) :
    Calls Tryd.prog 27 #[.pointer none, .string r] w fun e w' => e = .returned (.int .i64 1) ∧ w = w' := by
  go_enter Tryd.func27, Tryd.ntmps27
  go_wp2_with fail
  refine (made_nil _).mono ?_
  rintro e w' ⟨rfl, rfl⟩
  go_wp2_with fail
  go_ret
  exact ⟨rfl, rfl⟩
theorem same_k (ao bo : Option Addr) (n m cap dap : Nat) (ps qs : List ByteArray) (r : Bool) (w : World) (h : StrsAt w ao n cap ps) (k : StrsAt w bo m dap qs) (hr : decide (ps = qs) = r) :
    Calls Tryd.prog 14 #[.slice ao n cap, .slice bo m dap] w fun e w' => e = .returned (.bool r) ∧ Below w.heap.size w w' := by
  subst hr; exact same_s ao bo n m cap dap ps qs w h k
def sAB : ByteArray := ⟨#[97, 98]⟩
def sC : ByteArray := ⟨#[99]⟩
def sD : ByteArray := ⟨#[100]⟩
def sE : ByteArray := ⟨#[101]⟩
theorem dec_one (n : Nat) (h : n < 10) : Lib.decDigits n = [UInt8.ofNat (48 + n)] := by rw [Lib.decDigits, dif_pos h]
theorem enc_sz1 (r : ByteArray) (h : r.size < 10) : (encS r).size = r.size + 19 := by
  rw [encS_size, encL_length, L_len, dec_one _ h]
  simp only [List.length_singleton]; omega
theorem enc_ab : ((⟨#[50, 58, 97, 98]⟩ : ByteArray) ++ txtS sAB) ++ ⟨#[10]⟩ = encS sAB := by
  rw [← encS_form]
  have : (ofL (Lib.itoa (sAB.size : Int)) ++ ⟨#[58]⟩) ++ sAB = (⟨#[50, 58, 97, 98]⟩ : ByteArray) := by
    rw [Lib.itoa_nonneg, dec_one _ (by decide)]; rfl
  rw [this]
theorem dec_ab : decS (encS sAB ++ ⟨#[50, 58, 97]⟩) = [sAB] := by
  have hn : firstL [50, 58, 97] = none := first_none fun r _ hp => by
    have h1 := hp.length_le
    rw [encL_length] at h1
    simp only [List.length_cons, List.length_nil] at h1
    omega
  show (decL (encS sAB ++ ⟨#[50, 58, 97]⟩).data.toList).map ofL = _
  have e : (encS sAB ++ ⟨#[50, 58, 97]⟩).data.toList = encL sAB.data.toList ++ [50, 58, 97] := by
    rw [encS_is, ByteArray.data_append, Array.toList_append]
    simp [ofL]
  rw [e, decL_enc (by decide), decL_none hn]
  rfl
theorem sz_ab : szS [sAB] = 21 := by
  rw [szS_cons, szS_nil, enc_sz1 _ (by decide)]; decide
theorem sz_abc : szS [sAB, sC] = 41 := by
  rw [szS_cons, szS_cons, szS_nil, enc_sz1 _ (by decide), enc_sz1 _ (by decide)]; decide
theorem small_of {l : List ByteArray} (h : l.all (fun r => decide (r.size ≤ 4096)) = true) : ∀ r ∈ l, r.size ≤ 4096 := fun r hr => of_decide_eq_true (List.all_eq_true.1 h r hr)
theorem crash_ab : crashL [sAB, sC] 0 25 = [sAB] := by
  obtain ⟨m, h1, h2, h3, h4⟩ := decS_take (l := [sAB, sC]) 25 (small_of (by decide))
  have hk : kpN 25 (encsS [sAB, sC]).size = 25 := by
    have : (encsS [sAB, sC]).size = 41 := sz_abc
    rw [this]; decide
  show [] ++ decS ((encsS [sAB, sC]).extract 0 (kpN 25 (encsS [sAB, sC]).size)) = _
  rw [hk, h2, List.nil_append]
  have hm : m = 0 ∨ m = 1 ∨ m = 2 := by simp at h1; omega
  rcases hm with rfl | rfl | rfl
  · have h5 : szS (List.take 1 [sAB, sC]) = 21 := sz_ab
    simp at h4
    simp at h5
    omega
  · rfl
  · have h5 : szS (List.take 2 [sAB, sC]) = 41 := sz_abc
    omega
theorem crash_de : crashL [sAB, sD, sE] 2 (-1) = [sAB, sD] := by
  have hk : kpN (-1) (encsS [sE]).size = 0 := by unfold kpN; omega
  show [sAB, sD] ++ decS ((encsS [sE]).extract 0 (kpN (-1) (encsS [sE]).size)) = _
  rw [hk]
  have : decS ((encsS [sE]).extract 0 0) = [] := by
    show (decL ((encsS [sE]).extract 0 0).data.toList).map ofL = []
    rw [ext_take, List.take_zero]; rfl
  rw [this]; rfl
theorem bytes_ad : encsS ([sAB, sD].take 2) = encS sAB ++ encS sD := by
  show encsS [sAB, sD] = _
  rw [encsS_cons, encsS_one]

end Go.Proofs.YtafecnaeoeanmaaDoor
