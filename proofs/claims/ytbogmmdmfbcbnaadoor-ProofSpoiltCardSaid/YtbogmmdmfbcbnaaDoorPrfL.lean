/-
  Plain functions for proof keys: verifiers, challenges, identifiers, state parameters; what the laws say of them. Nothing of the program stands here. No condition.
-/
import Derived.Test.YtbogmmdmfbcbnaaDoorDigMac
import Derived.Test.YtbogmmdmfbcbnaaDoorCodecRB64
import Derived.Test.YtbogmmdmfbcbnaaDoorCodecRInt2
import Derived.Test.YtbogmmdmfbcbnaaDoorFoldWord
import Derived.Lib.IndexMore
import Derived.Lib.SmallJoins
set_option maxRecDepth 100000
set_option linter.unusedVariables false
set_option linter.unusedSimpArgs false
set_option linter.unnecessarySimpa false
namespace Go.Proofs.YtbogmmdmfbcbnaaDoor
open Go.RowKit Go.PlainAid

/-! ### verifiers and challenges -/
def vbI (c : Int) : Bool := ltrI c || dgtI c || c == 45 || c == 46 || c == 95 || c == 126
def valB (s : ByteArray) : Bool := decide (43 ≤ s.size) && decide (s.size ≤ 128) && allB vbI s
theorem valB_short {s : ByteArray} (h : s.size < 43) : valB s = false := by unfold valB; simp [Nat.not_le.2 h]
theorem valB_long {s : ByteArray} (h : 128 < s.size) : valB s = false := by unfold valB; simp [Nat.not_le.2 h]
theorem valB_bad {s : ByteArray} {k : Nat} (hk : k < s.size) (h : vbI (bt s k) = false) : valB s = false := by unfold valB; rw [allB_false k hk h, Bool.and_false]
theorem valB_good {s : ByteArray} (h1 : 43 ≤ s.size) (h2 : s.size ≤ 128) (h : ∀ j, j < s.size → vbI (bt s j) = true) : valB s = true := by unfold valB; rw [allB_true h]; simp [h1, h2]
theorem valB_end {s : ByteArray} (h : ∀ j, j < s.size → vbI (bt s j) = true) : valB s = (decide (43 ≤ s.size) && decide (s.size ≤ 128)) := by unfold valB; rw [allB_true h, Bool.and_true]
def chE (m : Int) (s : ByteArray) : Int := if m = 1 ∨ m = 2 then (if valB s = true then 0 else 4) else 2
def chS (m : Int) (s : ByteArray) : ByteArray := if chE m s = 0 then (if m = 1 then s else b64S (txtS s)) else ⟨#[]⟩
def ckE (m : Int) (c s : ByteArray) : Int := if chE m s = 0 then (if c = chS m s then 0 else 20) else chE m s
def unS (seed : ByteArray) (n : Int) : ByteArray := ⟨#[117]⟩ ++ txtS (ofL (Lib.itoa n) ++ ⟨#[58]⟩ ++ seed)

/-! ### plain words -/
def plP (c : Int) : Bool := ltrI c || dgtI c || c == 45 || c == 95 || c == 58
def plB (s : ByteArray) : Bool := decide (1 ≤ s.size) && decide (s.size ≤ 64) && allB plP s
theorem plP_dot {c : Int} : plP c = (wordP c && !(c == 46)) := by
  unfold plP wordP
  cases h : (c == 46)
  · simp
  · have : c = 46 := by simpa using h
    subst this; decide
theorem plB_bad {s : ByteArray} {k : Nat} (hk : k < s.size) (h : plP (bt s k) = false) : plB s = false := by unfold plB; rw [allB_false k hk h, Bool.and_false]
theorem plB_end {s : ByteArray} (h : ∀ j, j < s.size → plP (bt s j) = true) : plB s = (decide (1 ≤ s.size) && decide (s.size ≤ 64)) := by unfold plB; rw [allB_true h, Bool.and_true]
theorem plB_size {s : ByteArray} (h : plB s = true) : 1 ≤ s.size ∧ s.size ≤ 64 := by
  unfold plB at h
  simp only [Bool.and_eq_true, decide_eq_true_eq] at h
  exact h.1
theorem plB_all {s : ByteArray} (h : plB s = true) : ∀ j, j < s.size → plP (bt s j) = true := by
  unfold plB at h
  rw [Bool.and_eq_true] at h
  exact allB_iff.1 h.2
theorem plB_word {s : ByteArray} (h : plB s = true) : wordB s = true := by
  have h1 := plB_size h
  have h2 := plB_all h
  unfold wordB
  rw [allB_true fun j hj => by have := h2 j hj; rw [plP_dot, Bool.and_eq_true] at this; exact this.1]
  simp [h1.1, h1.2]
/-- no full stop -/
theorem ix_free {c : UInt8} : ∀ {l : List UInt8}, c ∉ l → Lib.index l [c] = -1
  | [], _ => rfl
  | b :: l, h => by
    rw [List.mem_cons, not_or] at h
    unfold Lib.index
    have : [c].isPrefixOf (b :: l) = false := by simp [List.isPrefixOf]; exact h.1
    rw [this, ix_free h.2]; rfl
theorem ix_at {c : UInt8} {b : List UInt8} : ∀ {a : List UInt8}, c ∉ a → Lib.index (a ++ c :: b) [c] = (a.length : Int)
  | [], _ => by
    show Lib.index (c :: b) [c] = 0
    unfold Lib.index
    have : [c].isPrefixOf (c :: b) = true := by simp [List.isPrefixOf]
    rw [this]; rfl
  | x :: a, h => by
    rw [List.mem_cons, not_or] at h
    show Lib.index (x :: (a ++ c :: b)) [c] = _
    unfold Lib.index
    have : [c].isPrefixOf (x :: (a ++ c :: b)) = false := by simp [List.isPrefixOf]; exact h.1
    rw [this, ix_at h.2]
    have : ((a.length : Int) == -1) = false := by rw [beq_eq_false_iff_ne]; omega
    rw [this]; simp
theorem cut_free {c : UInt8} {l : List UInt8} (h : c ∉ l) : Lib.cut l [c] = (l, [], false) := by unfold Lib.cut; rw [ix_free h, if_neg (by decide)]
theorem cut_at {c : UInt8} {a b : List UInt8} (h : c ∉ a) : Lib.cut (a ++ c :: b) [c] = (a, b, true) := by
  unfold Lib.cut
  rw [ix_at h, if_pos (by omega)]
  have : ((a.length : Int)).toNat = a.length := by omega
  rw [this]
  simp
theorem con_free {c : UInt8} {l : List UInt8} (h : c ∉ l) : Lib.contains l [c] = false := by unfold Lib.contains; rw [ix_free h]; rfl
theorem first_at {c : UInt8} : ∀ {l : List UInt8}, c ∈ l → ∃ a b, l = a ++ c :: b ∧ c ∉ a
  | [], h => by cases h
  | x :: l, h => by
    by_cases e : c = x
    · subst e; exact ⟨[], l, rfl, by simp⟩
    · obtain ⟨a, b, h1, h2⟩ := first_at ((List.mem_cons.1 h).resolve_left e)
      exact ⟨x :: a, b, by rw [h1]; rfl, by rw [List.mem_cons, not_or]; exact ⟨e, h2⟩⟩
theorem con_in {c : UInt8} {l : List UInt8} (h : c ∈ l) : Lib.contains l [c] = true := by
  obtain ⟨a, b, rfl, h2⟩ := first_at h
  unfold Lib.contains; rw [ix_at h2]; exact decide_eq_true (by omega)
theorem mem_bt {s : ByteArray} {c : UInt8} : c ∈ s.data.toList ↔ ∃ j, j < s.size ∧ bt s j = (c.toNat : Int) := by
  constructor
  · intro h
    obtain ⟨j, hj, rfl⟩ := List.mem_iff_getElem.1 h
    exact ⟨j, by rw [Lib.size_eq]; exact hj, bt_at s j (by rw [Lib.size_eq]; exact hj)⟩
  · rintro ⟨j, hj, e⟩
    rw [bt_at s j hj] at e
    have : s.data.toList[j]'(by rw [← Lib.size_eq]; exact hj) = c := UInt8.toNat_inj.1 (by exact_mod_cast e)
    rw [← this]; exact List.getElem_mem _
theorem plB_free {s : ByteArray} (h : plB s = true) : (46 : UInt8) ∉ s.data.toList := fun k => by
  obtain ⟨j, hj, e⟩ := mem_bt.1 k
  have := plB_all h j hj
  rw [e] at this
  revert this; decide
/-- the program's test -/
theorem plB_is (s : ByteArray) : plB s = (wordB s && !Lib.contains s.data.toList [46]) := by
  by_cases h : (46 : UInt8) ∈ s.data.toList
  · rw [con_in h]
    cases hp : plB s
    · simp
    · exact absurd h (plB_free hp)
  · rw [con_free h]
    unfold plB wordB
    have : allB plP s = allB wordP s := by
      rw [Bool.eq_iff_iff, allB_iff, allB_iff]
      refine forall_congr' fun j => forall_congr' fun hj => ?_
      rw [plP_dot]
      have : (bt s j == 46) = false := by
        rw [beq_eq_false_iff_ne]
        exact fun e => h (mem_bt.2 ⟨j, hj, e⟩)
      rw [this]; simp
    rw [this]; simp

/-! ### state parameters -/
def dotS : ByteArray := ⟨#[46]⟩
def bndS (sec ses req : ByteArray) : ByteArray := if plB ses = true ∧ plB req = true then req ++ ⟨#[46]⟩ ++ macS sec (ses ++ ⟨#[124]⟩ ++ req) else ⟨#[]⟩
/-- st names the request r -/
def Nm (st r : ByteArray) : Prop := ∃ code, st.data.toList = r.data.toList ++ 46 :: code ∧ plB r = true ∧ rdE code = 0
theorem rdE_len {l : List UInt8} (h : rdE l = 0) : l.length = 16 := by
  unfold rdE at h
  unfold rdO at h
  by_cases e : l.length = 16
  · exact e
  · rw [if_neg e] at h; simp at h
theorem rdE_ok {l : List UInt8} (h : rdE l ≠ 0) : rdE l = 4 := by
  unfold rdE at *
  split at h
  · exact absurd rfl h
  · rename_i k; rw [if_neg k]
/-- as strings.Cut sees it -/
theorem nm_cut {st r : ByteArray} {code : List UInt8} (h : st.data.toList = r.data.toList ++ 46 :: code) (hp : plB r = true) : Lib.cut st.data.toList [46] = (r.data.toList, code, true) := by
  rw [h]; exact cut_at (plB_free hp)
theorem cut_nm {st : ByteArray} {a b : List UInt8} {f : Bool} (h : Lib.cut st.data.toList [46] = (a, b, f)) (hb : rdE b = 0) (hp : plB ⟨a.toArray⟩ = true) : Nm st ⟨a.toArray⟩ := by
  have hl := rdE_len hb
  by_cases k : (46 : UInt8) ∈ st.data.toList
  · obtain ⟨x, y, h1, h2⟩ := first_at k
    rw [h1, cut_at h2] at h
    injection h with e1 h
    injection h with e2 e3
    subst e1 e2
    exact ⟨_, h1, hp, hb⟩
  · rw [cut_free k] at h
    injection h with _ h
    injection h with e2 _
    rw [← e2] at hl; simp at hl
theorem nm_one {st r q : ByteArray} (h : Nm st r) (k : Nm st q) : r = q := by
  obtain ⟨c, h1, h2, _⟩ := h
  obtain ⟨d, k1, k2, _⟩ := k
  have := (nm_cut h1 h2).symm.trans (nm_cut k1 k2)
  injection this with e _
  rw [← Lib.mk_data r, e, Lib.mk_data]
theorem nm_size {st r : ByteArray} (h : Nm st r) : st.size = r.size + 17 := by
  obtain ⟨c, h1, _, h3⟩ := h
  have := rdE_len h3
  rw [Lib.size_eq, h1, List.length_append, List.length_cons, this, ← Lib.size_eq]
/-- as the specification sees it -/
theorem nm_ref {st r : ByteArray} (h : Nm st r) : 17 ≤ st.size ∧ bt st (st.size - 17) = 46 ∧ st.extract 0 (st.size - 17) = r ∧ rdE (st.extract (st.size - 17 + 1) st.size).data.toList = 0 := by
  have hz := nm_size h
  obtain ⟨c, h1, h2, h3⟩ := h
  have hr : st.size - 17 = r.data.toList.length := by rw [hz, ← Lib.size_eq]; omega
  refine ⟨by omega, ?_, ?_, ?_⟩
  · rw [bt_list st (st.size - 17) 46 (by rw [h1, hr, List.getElem?_append_right (Nat.le_refl _)]; simp)]; rfl
  · rw [Lib.extract_eq, h1, hr]
    simp
  · rw [Lib.extract_to_end, h1, hr]
    have : List.drop (r.data.toList.length + 1) (r.data.toList ++ 46 :: c) = c := by
      rw [← List.drop_drop, List.drop_left]; rfl
    rw [this]; exact h3
theorem ref_nm {st : ByteArray} (h1 : 17 ≤ st.size) (h2 : bt st (st.size - 17) = 46) (h3 : plB (st.extract 0 (st.size - 17)) = true) (h4 : rdE (st.extract (st.size - 17 + 1) st.size).data.toList = 0) : Nm st (st.extract 0 (st.size - 17)) := by
  refine ⟨(st.extract (st.size - 17 + 1) st.size).data.toList, ?_, h3, h4⟩
  have hk : st.size - 17 < st.data.toList.length := by rw [← Lib.size_eq]; omega
  have e46 : st.data.toList[st.size - 17] = 46 := by
    rw [bt_at st _ (by omega)] at h2
    exact UInt8.toNat_inj.1 (by exact_mod_cast h2)
  rw [Lib.extract_to_end, Lib.extract_data, List.drop_zero, Nat.sub_zero, ← e46, ← List.drop_eq_getElem_cons hk, List.take_append_drop]
/-- what Bound answers -/
def BdE (sec ses st : ByteArray) (x : ByteArray × Int) : Prop :=
  (x = (⟨#[]⟩, 4) ∧ (plB ses = false ∨ ∀ r, ¬ Nm st r)) ∨ (∃ r, plB ses = true ∧ Nm st r ∧ x = if bndS sec ses r = st then (r, 0) else (⟨#[]⟩, 20))
theorem bd_one {sec ses st : ByteArray} {x y : ByteArray × Int} (h : BdE sec ses st x) (k : BdE sec ses st y) : x = y := by
  rcases h with ⟨rfl, h⟩ | ⟨r, h1, h2, rfl⟩
  · rcases k with ⟨rfl, _⟩ | ⟨q, k1, k2, rfl⟩
    · rfl
    · rcases h with h | h
      · rw [h] at k1; cases k1
      · exact absurd k2 (h q)
  · rcases k with ⟨rfl, k⟩ | ⟨q, k1, k2, rfl⟩
    · rcases k with k | k
      · rw [h1] at k; cases k
      · exact absurd h2 (k r)
    · rw [nm_one h2 k2]
theorem bd_ex (sec ses st : ByteArray) : ∃ x, BdE sec ses st x := by
  cases h : plB ses
  · exact ⟨_, .inl ⟨rfl, .inl h⟩⟩
  · by_cases k : ∃ r, Nm st r
    · obtain ⟨r, hr⟩ := k; exact ⟨_, .inr ⟨r, h, hr, rfl⟩⟩
    · exact ⟨_, .inl ⟨rfl, .inr fun r hr => k ⟨r, hr⟩⟩⟩
theorem macS_size (k s : ByteArray) : (macS k s).size = 16 := txtS_size _
theorem hx_txt (s : ByteArray) : rdE (txtS s).data.toList = 0 := by
  unfold rdE
  have : rdO (txtS s).data.toList = some (sumN s.data.toList) := by
    show rdO (hexN (sumN s.data.toList)) = _
    exact rdO_hexN _ (sumN_lt _)
  rw [this]; rfl
/-- what Bind returns names the request -/
theorem bnd_nm {sec ses req : ByteArray} (h1 : plB ses = true) (h2 : plB req = true) : Nm (bndS sec ses req) req := by
  unfold bndS
  rw [if_pos ⟨h1, h2⟩]
  refine ⟨(macS sec (ses ++ ⟨#[124]⟩ ++ req)).data.toList, ?_, h2, hx_txt _⟩
  rw [Go.Joins.data_append, Go.Joins.data_append]
  simp
theorem bnd_ne {sec ses req : ByteArray} (h : bndS sec ses req ≠ ⟨#[]⟩) : plB ses = true ∧ plB req = true := by
  unfold bndS at h
  by_cases k : plB ses = true ∧ plB req = true
  · exact k
  · rw [if_neg k] at h; exact absurd rfl h
theorem bnd_no {sec ses req : ByteArray} (h : ¬ (plB ses = true ∧ plB req = true)) : bndS sec ses req = ⟨#[]⟩ := by unfold bndS; rw [if_neg h]
theorem bnd_yes {sec ses req : ByteArray} (h1 : plB ses = true) (h2 : plB req = true) : bndS sec ses req = req ++ ⟨#[46]⟩ ++ macS sec (ses ++ ⟨#[124]⟩ ++ req) := by unfold bndS; rw [if_pos ⟨h1, h2⟩]
theorem bnd_size {sec ses req : ByteArray} (h1 : plB ses = true) (h2 : plB req = true) : (bndS sec ses req).size = req.size + 17 := nm_size (bnd_nm h1 h2)
theorem ba_append_left {a b c : ByteArray} (h : a ++ b = a ++ c) : b = c := by
  have := congrArg (fun s : ByteArray => s.data.toList) h
  simp only [Go.Joins.data_append, List.append_cancel_left_eq] at this
  rw [← Lib.mk_data b, this, Lib.mk_data]
/-- two state parameters of one request are equal where their codes are -/
theorem bnd_eq {sec ses sec' ses' req : ByteArray} (h1 : plB ses = true) (h1' : plB ses' = true) (h2 : plB req = true) : (bndS sec ses req = bndS sec' ses' req) ↔ macS sec (ses ++ ⟨#[124]⟩ ++ req) = macS sec' (ses' ++ ⟨#[124]⟩ ++ req) := by
  rw [bnd_yes h1 h2, bnd_yes h1' h2]
  exact ⟨ba_append_left, fun h => by rw [h]⟩
end Go.Proofs.YtbogmmdmfbcbnaaDoor
