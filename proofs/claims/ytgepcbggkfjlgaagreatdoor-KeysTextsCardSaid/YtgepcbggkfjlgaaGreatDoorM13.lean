/-
  Texts of the schema layer and of those beneath it, joined: KeyT, KeyM, KeyN, KeyO. Conditions stand at each contract.
-/
import Derived.Test.YtgepcbggkfjlgaaGreatDoorM02
import Derived.Test.YtgepcbggkfjlgaaGreatDoorM03
import Derived.Test.YtgepcbggkfjlgaaGreatDoorM07
import Derived.Test.YtgepcbggkfjlgaaGreatDoorM12

section
/-
  Pure: the text form of a key ring, what a text is read as, and that writing and reading are inverse to each other. Nothing of the program stands here. No condition.
-/
set_option maxRecDepth 100000
set_option linter.unusedVariables false
set_option linter.unusedSimpArgs false
set_option linter.unnecessarySimpa false
namespace Go.Proofs.YtgepcbggkfjlgaaGreatDoor
open Go.RowKit Go.PlainAid

def escA (s : ByteArray) : ByteArray := ⟨(escL s.data.toList).toArray⟩
def intS (n : Int) : ByteArray := ofL (Lib.itoa n)
theorem un_esc (s : ByteArray) : unS (escA s) = s ∧ unE (escA s) = 0 := by
  have h := unesc_esc s.data.toList
  constructor
  · unfold unS escA
    show (match unesc (escL s.data.toList) with | some m => _ | none => _) = s
    rw [h]
  · unfold unE escA
    show (match unesc (escL s.data.toList) with | some m => _ | none => _) = _
    rw [h]
theorem esc_un {s : ByteArray} (h : unE s = 0) : escA (unS s) = s := by
  unfold unE at h
  unfold unS escA
  cases e : unesc s.data.toList with
  | none => rw [e] at h; cases h
  | some m =>
    simp only []
    show (⟨(escL m).toArray⟩ : ByteArray) = s
    rw [esc_unesc _ _ e]
theorem unE_is (s : ByteArray) : unE s = 0 ∨ unE s = 4 := by
  unfold unE
  split
  · exact .inl rfl
  · exact .inr rfl
theorem escfree_t : ∀ n : Nat, n < 256 → (32 : UInt8) ∉ escC (UInt8.ofNat n) ∧ (10 : UInt8) ∉ escC (UInt8.ofNat n) := by decide +kernel
theorem escfree (l : List UInt8) : (32 : UInt8) ∉ escL l ∧ (10 : UInt8) ∉ escL l := by
  have key : ∀ c : UInt8, (32 : UInt8) ∉ escC c ∧ (10 : UInt8) ∉ escC c := fun c => by
    have := escfree_t c.toNat c.toNat_lt
    rwa [UInt8.ofNat_toNat] at this
  unfold escL
  constructor
  · intro h
    obtain ⟨c, _, hc⟩ := List.mem_flatMap.1 h
    exact (key c).1 hc
  · intro h
    obtain ⟨c, _, hc⟩ := List.mem_flatMap.1 h
    exact (key c).2 hc
theorem dec_bytes (n : Nat) : ∀ c ∈ Lib.decDigits n, 48 ≤ c.toNat ∧ c.toNat ≤ 57 := by
  induction n using Nat.strongRecOn with
  | _ n ih =>
    intro c hc
    rw [Lib.decDigits] at hc
    split at hc
    · next h =>
      simp only [List.mem_singleton] at hc
      subst hc
      rw [UInt8.toNat_ofNat']; omega
    · next h =>
      rw [List.mem_append] at hc
      rcases hc with hc | hc
      · exact ih (n / 10) (by omega) c hc
      · simp only [List.mem_singleton] at hc
        subst hc
        rw [UInt8.toNat_ofNat']; omega
theorem itoa_free (n : Int) : (32 : UInt8) ∉ Lib.itoa n ∧ (10 : UInt8) ∉ Lib.itoa n := by
  have hd : ∀ m : Nat, (32 : UInt8) ∉ Lib.decDigits m ∧ (10 : UInt8) ∉ Lib.decDigits m := fun m =>
    ⟨fun h => by have := dec_bytes m _ h; revert this; decide, fun h => by have := dec_bytes m _ h; revert this; decide⟩
  unfold Lib.itoa
  split
  · refine ⟨fun h => ?_, fun h => ?_⟩
    · rcases List.mem_cons.1 h with q | q
      · revert q; decide
      · exact (hd _).1 q
    · rcases List.mem_cons.1 h with q | q
      · revert q; decide
      · exact (hd _).2 q
  · exact hd _
theorem word_free {s : ByteArray} (h : wordB s = true) : (32 : UInt8) ∉ s.data.toList ∧ (10 : UInt8) ∉ s.data.toList := by
  unfold wordB at h
  rw [Bool.and_eq_true, Bool.and_eq_true] at h
  have ha := allB_iff.1 h.2
  have key : ∀ c ∈ s.data.toList, wordP (c.toNat : Int) = true := fun c hc => by
    obtain ⟨j, hj, rfl⟩ := List.mem_iff_getElem.1 hc
    have := ha j (by rw [Lib.size_eq]; exact hj)
    rw [bt_at s j (by rw [Lib.size_eq]; exact hj)] at this
    exact this
  exact ⟨fun h => absurd (key _ h) (by decide), fun h => absurd (key _ h) (by decide)⟩
def wordsK (k : Ky) : List ByteArray := [k.id, escA k.sec, intS k.sf, intS k.su, intS k.af, intS k.au]
def lineK (k : Ky) : ByteArray := joinB 32 (wordsK k)
theorem ofL_data (l : List UInt8) : (ofL l).data.toList = l := by unfold ofL; simp
theorem words_free {k : Ky} (h : wordB k.id = true) : ∀ s ∈ wordsK k, (32 : UInt8) ∉ s.data.toList ∧ (10 : UInt8) ∉ s.data.toList := by
  intro s hs
  unfold wordsK at hs
  simp only [List.mem_cons, List.not_mem_nil, or_false] at hs
  have hi : ∀ n : Int, (32 : UInt8) ∉ (intS n).data.toList ∧ (10 : UInt8) ∉ (intS n).data.toList := fun n => by
    unfold intS; rw [ofL_data]; exact itoa_free n
  rcases hs with rfl | rfl | rfl | rfl | rfl | rfl
  · exact word_free h
  · exact escfree _
  · exact hi _
  · exact hi _
  · exact hi _
  · exact hi _
theorem line_free {k : Ky} (h : wordB k.id = true) : (10 : UInt8) ∉ (lineK k).data.toList :=
  joinB_free (by decide) fun s hs => (words_free h s hs).2
theorem line_parts {k : Ky} (h : wordB k.id = true) : partsB 32 (lineK k) = wordsK k :=
  parts_join (by unfold wordsK; simp) fun s hs => (words_free h s hs).1
/-- the worst error of four numbers: of form ahead of range -/
def wrsE (a b : Int) : Int := if b ≠ 0 ∧ a ≠ 4 then b else a
def rdI (s : ByteArray) : Int × Int := readI s.data.toList
def bndE (a b c d : ByteArray) : Int := wrsE (wrsE (wrsE (wrsE 0 (rdI a).2) (rdI b).2) (rdI c).2) (rdI d).2
/-- the key of a line, or the error of reading it -/
def rdK (s : ByteArray) : Ky × Int := match partsB 32 s with
  | [i, x, a, b, c, d] => if unE x ≠ 0 then (kZ, unE x) else if bndE a b c d ≠ 0 then (kZ, bndE a b c d) else (⟨i, unS x, (rdI a).1, (rdI b).1, (rdI c).1, (rdI d).1⟩, 0)
  | _ => (kZ, 4)
theorem rdI_int {n : Int} (h0 : -9223372036854775808 ≤ n) (h1 : n ≤ 9223372036854775807) : rdI (intS n) = (n, 0) := by
  unfold rdI intS; rw [ofL_data]; exact readI_itoa n h0 h1
theorem rdI_cases (s : ByteArray) : (rdI s).2 = 0 ∧ intS (rdI s).1 = s ∧ -9223372036854775808 ≤ (rdI s).1 ∧ (rdI s).1 ≤ 9223372036854775807 ∨ (rdI s).2 = 27 ∨ (rdI s).2 = 4 := by
  unfold rdI
  rcases readI_cases s.data.toList with ⟨v, h, h1, h2, h3⟩ | h | h
  · left
    rw [h]
    refine ⟨rfl, ?_, h2, h3⟩
    show ofL (Lib.itoa v) = s
    rw [h1]
    unfold ofL
    exact Lib.mk_data s
  · right; left; rw [h]
  · right; right; rw [h]
theorem wrs_zero {a b : Int} (h : wrsE a b = 0) : a = 0 ∧ b = 0 := by unfold wrsE at h; split at h <;> omega
theorem bnd_zero {a b c d : ByteArray} (h : bndE a b c d = 0) : (rdI a).2 = 0 ∧ (rdI b).2 = 0 ∧ (rdI c).2 = 0 ∧ (rdI d).2 = 0 := by
  unfold bndE at h
  obtain ⟨h, h4⟩ := wrs_zero h
  obtain ⟨h, h3⟩ := wrs_zero h
  obtain ⟨h, h2⟩ := wrs_zero h
  obtain ⟨_, h1⟩ := wrs_zero h
  exact ⟨h1, h2, h3, h4⟩
/-- numbers that an int holds -/
structure InR6 (k : Ky) : Prop where
  a : -9223372036854775808 ≤ k.sf ∧ k.sf ≤ 9223372036854775807
  b : -9223372036854775808 ≤ k.su ∧ k.su ≤ 9223372036854775807
  c : -9223372036854775808 ≤ k.af ∧ k.af ≤ 9223372036854775807
  d : -9223372036854775808 ≤ k.au ∧ k.au ≤ 9223372036854775807
theorem win_inr {k : Ky} (h : winB k = true) : InR6 k := by
  obtain ⟨w1, w2, w3, w4, w5, w6⟩ := winB_iff.1 h
  exact ⟨by omega, by omega, by omega, by omega⟩
theorem rd_line {k : Ky} (h : wordB k.id = true) (hr : InR6 k) : rdK (lineK k) = (k, 0) := by
  unfold rdK
  rw [line_parts h]
  unfold wordsK
  dsimp only
  rw [(un_esc k.sec).2, (un_esc k.sec).1, if_neg (by decide)]
  have e : bndE (intS k.sf) (intS k.su) (intS k.af) (intS k.au) = 0 := by
    unfold bndE
    rw [rdI_int hr.a.1 hr.a.2, rdI_int hr.b.1 hr.b.2, rdI_int hr.c.1 hr.c.2, rdI_int hr.d.1 hr.d.2]; rfl
  rw [e, if_neg (by decide), rdI_int hr.a.1 hr.a.2, rdI_int hr.b.1 hr.b.2, rdI_int hr.c.1 hr.c.2, rdI_int hr.d.1 hr.d.2]
theorem rd_ok {s : ByteArray} {k : Ky} (h : rdK s = (k, 0)) : lineK k = s := by
  unfold rdK at h
  split at h
  · next i x a b c d hp =>
    split at h
    · next q => exact absurd (Prod.mk.inj h).2 q
    · next q =>
      split at h
      · next q2 => exact absurd (Prod.mk.inj h).2 q2
      · next q2 =>
        obtain rfl := (Prod.mk.inj h).1
        obtain ⟨h1, h2, h3, h4⟩ := bnd_zero (Classical.not_not.1 q2)
        have g : ∀ y : ByteArray, (rdI y).2 = 0 → intS (rdI y).1 = y := fun y hy => by
          rcases rdI_cases y with q | q | q
          · exact q.2.1
          · rw [q] at hy; exact absurd hy (by decide)
          · rw [q] at hy; exact absurd hy (by decide)
        unfold lineK wordsK
        dsimp only
        rw [esc_un (Classical.not_not.1 q), g a h1, g b h2, g c h3, g d h4, ← hp]
        exact join_parts 32 s
  · exact absurd (Prod.mk.inj h).2 (by decide)
/-- the lines of keys, each with its line feed -/
def txL (l : List Ky) : List UInt8 := l.flatMap fun k => (lineK k).data.toList ++ [10]
theorem txL_cons (k : Ky) (l : List Ky) : txL (k :: l) = (lineK k).data.toList ++ 10 :: txL l := by unfold txL; rw [List.flatMap_cons]; simp
theorem txL_snoc (l : List Ky) (k : Ky) : txL (l ++ [k]) = txL l ++ ((lineK k).data.toList ++ [10]) := by unfold txL; rw [List.flatMap_append]; simp
def txtK (l : List Ky) : ByteArray × Int := if chkK l ≠ 0 then (⟨#[]⟩, chkK l) else if 4096 < (txL l).length then (⟨#[]⟩, 3) else (ofL (txL l), 0)
/-- what a text is read as, behind the keys that were read: f bounds the lines -/
def parG : Nat → ByteArray → List Ky → Int → List Ky × Int × Int
  | 0, _, l, n => (l, 0, 0)
  | f + 1, s, l, n => if s.size = 0 then (l, 0, 0) else if cutOk s ⟨#[10]⟩ = false then ([], n, 4) else
    if (rdK (cutBef s ⟨#[10]⟩)).2 ≠ 0 then ([], n, (rdK (cutBef s ⟨#[10]⟩)).2) else
    if chkK (l ++ [(rdK (cutBef s ⟨#[10]⟩)).1]) ≠ 0 then ([], n, chkK (l ++ [(rdK (cutBef s ⟨#[10]⟩)).1])) else
    parG f (cutAft s ⟨#[10]⟩) (l ++ [(rdK (cutBef s ⟨#[10]⟩)).1]) (n + 1)
def parK (s : ByteArray) : List Ky × Int × Int := if 4096 < s.size then ([], 0, 3) else parG s.size s [] 1
theorem aft_size {s : ByteArray} (h : cutOk s ⟨#[10]⟩ = true) : s.size = (cutBef s ⟨#[10]⟩).size + 1 + (cutAft s ⟨#[10]⟩).size := by
  have := cut_split s 10 h
  rw [Lib.size_eq, this, List.length_append, List.length_cons, ← Lib.size_eq, ← Lib.size_eq]; omega
theorem prefix_ok {l m : List Ky} (h : OkK (l ++ m)) : OkK l :=
  ⟨by have := h.len; rw [List.length_append] at this; omega, fun k hk => h.word k (List.mem_append_left _ hk), fun k hk => h.cln k (List.mem_append_left _ hk), fun k hk => h.win k (List.mem_append_left _ hk), (List.pairwise_append.1 h.one).1⟩
theorem par_text : ∀ (r : List Ky) (f : Nat) (p : List Ky) (n : Int), OkK (p ++ r) → (txL r).length ≤ f → parG f (ofL (txL r)) p n = (p ++ r, 0, 0)
  | [], f, p, n, h, hf => by
    rw [List.append_nil]
    cases f with
    | zero => rfl
    | succ f => unfold parG; rw [if_pos (by rfl)]
  | k :: r, f, p, n, h, hf => by
    have hk := h.word k (by simp)
    obtain ⟨c1, c2, c3⟩ := cut_mk (lineK k).data.toList (txL r) 10 (line_free hk)
    rw [← txL_cons] at c1 c2 c3
    have hs : (ofL (txL (k :: r))).size = (txL (k :: r)).length := by unfold ofL; rw [Lib.size_mk]
    have hlen : (txL (k :: r)).length = (lineK k).data.toList.length + 1 + (txL r).length := by rw [txL_cons, List.length_append, List.length_cons]; omega
    cases f with
    | zero => omega
    | succ f =>
      have e0 : ofL (lineK k).data.toList = lineK k := by unfold ofL; exact Lib.mk_data _
      rw [e0] at c2
      have hr := rd_line hk (win_inr (h.win k (by simp)))
      have hp : OkK (p ++ [k]) := prefix_ok (m := r) (by rw [List.append_assoc]; exact h)
      unfold parG
      rw [if_neg (by omega), c1, if_neg (by decide), c2, hr, if_neg (by exact fun q => q rfl), if_neg (by rw [chk_ok hp]; exact fun q => q rfl), c3]
      dsimp only
      rw [par_text r f (p ++ [k]) (n + 1) (by rw [List.append_assoc]; exact h) (by omega), List.append_assoc]; rfl
theorem par_back : ∀ (f : Nat) (s : ByteArray) (p m : List Ky) (n i : Int), s.size ≤ f → parG f s p n = (m, i, 0) → chkK p = 0 → i = 0 ∧ chkK m = 0 ∧ ∃ r, m = p ++ r ∧ s.data.toList = txL r
  | 0, s, p, m, n, i, hs, h, hp => by
    obtain ⟨h1, h2⟩ := Prod.mk.inj h
    subst h1
    have : s.data.toList = [] := List.length_eq_zero_iff.1 (by rw [← Lib.size_eq]; omega)
    exact ⟨(Prod.mk.inj h2).1.symm, hp, [], by simp, this⟩
  | f + 1, s, p, m, n, i, hs, h, hp => by
    unfold parG at h
    split at h
    · next h0 =>
      obtain ⟨h1, h2⟩ := Prod.mk.inj h
      subst h1
      have : s.data.toList = [] := List.length_eq_zero_iff.1 (by rw [← Lib.size_eq]; omega)
      exact ⟨(Prod.mk.inj h2).1.symm, hp, [], by simp, this⟩
    · next h0 =>
      split at h
      · exact absurd (Prod.mk.inj (Prod.mk.inj h).2).2 (by decide)
      · next hc =>
        have hc' : cutOk s ⟨#[10]⟩ = true := by cases q : cutOk s ⟨#[10]⟩ <;> simp_all
        split at h
        · next q => exact absurd (Prod.mk.inj (Prod.mk.inj h).2).2 q
        · next q =>
          split at h
          · next q2 => exact absurd (Prod.mk.inj (Prod.mk.inj h).2).2 q2
          · next q2 =>
            have hz := aft_size hc'
            obtain ⟨i0, i1, r, i2, i3⟩ := par_back f _ _ _ _ _ (by omega) h (Classical.not_not.1 q2)
            obtain ⟨⟨k, e⟩, hk⟩ : ∃ y, rdK (cutBef s ⟨#[10]⟩) = y := ⟨_, rfl⟩
            rw [hk] at q i2
            have he : e = 0 := Classical.not_not.1 q
            subst he
            refine ⟨i0, i1, k :: r, by rw [i2]; simp, ?_⟩
            rw [txL_cons, rd_ok hk, ← i3]
            exact cut_split s 10 hc'
theorem text_par {l : List Ky} {t : ByteArray} (h : txtK l = (t, 0)) : parK t = (l, 0, 0) := by
  unfold txtK at h
  split at h
  · next q => exact absurd (Prod.mk.inj h).2 q
  · next q =>
    split at h
    · exact absurd (Prod.mk.inj h).2 (by decide)
    · next q2 =>
      obtain rfl := (Prod.mk.inj h).1
      have hs : (ofL (txL l)).size = (txL l).length := by unfold ofL; rw [Lib.size_mk]
      unfold parK
      rw [if_neg (by omega), hs]
      have := par_text l (txL l).length [] 1 (okK_of (Classical.not_not.1 q)) (Nat.le_refl _)
      rwa [List.nil_append] at this
theorem par_text_back {s : ByteArray} {m : List Ky} {i : Int} (h : parK s = (m, i, 0)) : txtK m = (s, 0) := by
  unfold parK at h
  split at h
  · exact absurd (Prod.mk.inj (Prod.mk.inj h).2).2 (by decide)
  · next hs =>
    obtain ⟨_, h1, r, h2, h3⟩ := par_back s.size s [] m 1 i (Nat.le_refl _) h (by decide)
    rw [List.nil_append] at h2
    subst h2
    unfold txtK
    rw [if_neg (by rw [h1]; decide), ← h3, if_neg (by rw [← Lib.size_eq]; exact hs)]
    unfold ofL
    rw [Lib.mk_data]
end Go.Proofs.YtgepcbggkfjlgaaGreatDoor
end

section
/-
  Contract of the specification's Between with a space. Condition: at most 1000 strings of at most 4000000 bytes.
-/
set_option maxRecDepth 100000
set_option linter.unusedVariables false
set_option linter.unusedSimpArgs false
set_option linter.unnecessarySimpa false
namespace Go.Proofs.YtgepcbggkfjlgaaGreatDoor
open Go.RowKit Go.PlainAid

theorem join_one (c : UInt8) (x : List UInt8) : Lib.join [x] [c] = x := by simp [Lib.join]
theorem join_snoc (c : UInt8) (p : List UInt8) : ∀ xs : List (List UInt8), xs ≠ [] → Lib.join (xs ++ [p]) [c] = Lib.join xs [c] ++ c :: p
  | [], h => absurd rfl h
  | [x], _ => by
    show Lib.join [x, p] [c] = _
    rw [join_two, join_one, join_one]
  | x :: y :: r, _ => by
    show Lib.join (x :: y :: (r ++ [p])) [c] = _
    rw [join_two, join_two, ← List.cons_append, join_snoc c p (y :: r) (by simp)]
    simp
def sA (ps : List ByteArray) (j : Nat) : ByteArray := ps.getD j ⟨#[]⟩
theorem sA_get {ps : List ByteArray} {k : Nat} (h : k < ps.length) : sA ps k = ps[k] := by unfold sA; rw [List.getD_eq_getElem?_getD, List.getElem?_eq_getElem h]; rfl
def joK (ps : List ByteArray) (k : Nat) : ByteArray := joinB 32 (ps.take k)
theorem jo_first (ps : List ByteArray) (h : 0 < ps.length) : joK ps (0 + 1) = joK ps 0 ++ sA ps 0 := by
  unfold joK joinB
  rw [List.take_succ_eq_append_getElem h, ← sA_get h]
  apply ByteArray.ext
  rw [ByteArray.data_append]
  simp [Lib.join]
theorem jo_next (ps : List ByteArray) (k : Nat) (h : k < ps.length) (h0 : 0 < k) : joK ps (k + 1) = (joK ps k ++ ⟨#[32]⟩) ++ sA ps k := by
  unfold joK joinB
  rw [List.take_succ_eq_append_getElem h, List.map_append, List.map_cons, List.map_nil, join_snoc _ _ _ (by
    intro e
    have := congrArg List.length e
    rw [List.length_map, List.length_take, List.length_nil] at this
    omega), ← sA_get h]
  apply ByteArray.ext
  rw [ByteArray.data_append, ByteArray.data_append]
  simp
theorem jo_size (ps : List ByteArray) (k : Nat) (hp : ∀ j, j < ps.length → (sA ps j).size ≤ 4000000) (h : ps.length ≤ 1000) : (joK ps k).size ≤ 5000000000 := by
  have h1 := joinB_le (sep := 32) (l := ps.take k) (M := 4000000) (fun s hs => by
    obtain ⟨i, hi, rfl⟩ := List.mem_iff_getElem.1 (List.mem_of_mem_take hs)
    rw [← sA_get hi]; exact hp i hi)
  have h2 : (ps.take k).length ≤ 1000 := by rw [List.length_take]; omega
  have := Nat.mul_le_mul_right (4000000 + 1) h2
  unfold joK
  omega
set_option maxHeartbeats 4000000 in
theorem between_k (ao : Option Addr) (n cap : Nat) (ps : List ByteArray) (r : ByteArray) (w : World) (h : StrsAt w ao n cap ps) (hn : ps.length ≤ 1000) (hp : ∀ j, j < ps.length → (sA ps j).size ≤ 4000000) (hr : joinB 32 ps = r) :
    Calls Tryz.prog 78 #[.slice ao n cap, .string ⟨#[32]⟩] w fun e w' => e = .returned (.string r) ∧ Below w.heap.size w w' := by
  obtain ⟨h1, h2, h3, h4⟩ := h
  subst h1
  unfold maxLen at h3
  have H4 := Lib.hid h4; clear h4
  have HP := Lib.hid hp; clear hp
  have HR := Lib.hid hr; clear hr
  go_enter Tryz.func78, Tryz.ntmps78
  go_wp2
  go_loopw [5, 6] (fun sv i wr => ∃ (k : Nat) (x : ByteArray), k ≤ ps.length ∧ i = .int .i64 k ∧ sv = .string x ∧ Hid (x = joK ps k) ∧ x.size ≤ 5000000000 ∧ Below w.heap.size w wr) (fun _ i _ => ps.length - (intOf i).toNat)
  case atStart => exact ⟨0, ⟨#[]⟩, Nat.zero_le _, rfl, rfl, Lib.hid (by unfold joK joinB; simp [Lib.join]), Nat.zero_le _, Below.refl _ _⟩
  case round =>
    obtain ⟨k, x, hk, rfl, rfl, HX, hxs, hbel⟩ := hrel
    by_cases hlt : k < ps.length
    · obtain ⟨b, off, rfl, hs⟩ := H4.out (by omega)
      have hcell := (hs.below hbel hs.1).2 k hlt
      clear hs
      have hpk := HP.out k hlt
      have hbs := jo_size ps (k + 1) HP.out hn
      obtain ⟨p, hpe⟩ : ∃ p, p = sA ps k := ⟨_, rfl⟩
      rw [show partAt ps k = p from hpe.symm] at hcell
      rw [← hpe] at hpk
      by_cases hk0 : k = 0
      · have HK := Lib.hid (show joK ps (k + 1) = x ++ p by rw [HX.out, hpe]; subst hk0; exact jo_first ps hlt)
        clear hpe
        have hd0 : decide (0 < k) = false := by simp; omega
        clear hk0
        rw [HK.out] at hbs
        go_wp2
        go_roundw
        case rel => exact ⟨k + 1, x ++ p, by omega, by go_num, rfl, Lib.hid HK.out.symm, hbs, hbel⟩
        case measure => simp [intOf]; omega
      · have HK := Lib.hid (show joK ps (k + 1) = (x ++ ⟨#[32]⟩) ++ p by rw [HX.out, hpe]; exact jo_next ps k hlt (by omega))
        clear hpe
        have hd0 : decide (0 < k) = true := by simp; omega
        clear hk0
        rw [HK.out] at hbs
        have hx1 : (x ++ (⟨#[32]⟩ : ByteArray)).size = x.size + 1 := by rw [ByteArray.size_append]; rfl
        have hx2 : (x ++ (⟨#[32]⟩ : ByteArray)).size ≤ 5000000001 := by omega
        go_wp2
        go_roundw
        case rel => exact ⟨k + 1, (x ++ ⟨#[32]⟩) ++ p, by omega, by go_num, rfl, Lib.hid HK.out.symm, hbs, hbel⟩
        case measure => simp [intOf]; omega
    · have HE := Lib.hid (show x = r by rw [HX.out, ← HR.out, show k = ps.length by omega]; unfold joK; rw [List.take_length])
      go_wp2
      go_ret
      exact ⟨by rw [HE.out]; rfl, hbel⟩
end Go.Proofs.YtgepcbggkfjlgaaGreatDoor
end

section
/-
  Contracts of the specification's Line and Text. Condition: strings of at most 1000000 bytes.
-/
set_option maxRecDepth 100000
set_option linter.unusedVariables false
set_option linter.unusedSimpArgs false
set_option linter.unnecessarySimpa false
namespace Go.Proofs.YtgepcbggkfjlgaaGreatDoor
open Go.RowKit Go.PlainAid

theorem strs_6 (w : World) (a b c d e f : ByteArray) : StrsAt (w.alloc (.cells #[.string a, .string b, .string c, .string d, .string e, .string f] 9)) (some ⟨w.heap.size, 0, none⟩) 6 6 [a, b, c, d, e, f] := by
  have H := Lib.hid (kbc_new w (.cells #[.string a, .string b, .string c, .string d, .string e, .string f] 9))
  refine ⟨rfl, Nat.le_refl _, by unfold maxLen; omega, fun _ => ⟨w.heap.size, 0, rfl, H.out.big, fun j hj => ?_⟩⟩
  have hj6 : j < 6 := hj
  have : j = 0 ∨ j = 1 ∨ j = 2 ∨ j = 3 ∨ j = 4 ∨ j = 5 := by omega
  rcases this with rfl | rfl | rfl | rfl | rfl | rfl
  · exact H.out.cell (i := 0) rfl
  · exact H.out.cell (i := 1) rfl
  · exact H.out.cell (i := 2) rfl
  · exact H.out.cell (i := 3) rfl
  · exact H.out.cell (i := 4) rfl
  · exact H.out.cell (i := 5) rfl
theorem resc_q (s x : ByteArray) (w : World) (hs : s.size ≤ 1000000000) (hx : escA s = x) :
    Calls Tryz.prog 76 #[.string s] w fun e w' => e = .returned (.string x) ∧ Below w.heap.size w w' := by subst hx; exact rescape_any s w hs
theorem rint_q (n : Int) (x : ByteArray) (w : World) (h : -9223372036854775808 ≤ n ∧ n ≤ 9223372036854775807) (hx : intS n = x) :
    Calls Tryz.prog 77 #[.int .i64 n] w fun e w' => e = .returned (.string x) ∧ Below w.heap.size w w' := by subst hx; exact rint_s n w h.1 h.2
/-- a key whose line is reckoned -/
structure SmL (k : Ky) : Prop where
  id : k.id.size ≤ 1000000
  sec : k.sec.size ≤ 1000000
  num : InR6 k
theorem escA_size {s : ByteArray} (h : s.size ≤ 1000000) : (escA s).size ≤ 3000000 := by
  have := escL_length s.data.toList
  rw [← Lib.size_eq] at this
  show (escL s.data.toList).length ≤ _
  omega
theorem intS_le {n : Int} (h : -9223372036854775808 ≤ n ∧ n ≤ 9223372036854775807) : (intS n).size ≤ 21 := Lib.itoa_length_le n h.1 h.2
theorem words_le {k : Ky} (h : SmL k) : ∀ s ∈ wordsK k, s.size ≤ 4000000 := by
  intro s hs
  unfold wordsK at hs
  simp only [List.mem_cons, List.not_mem_nil, or_false] at hs
  have h2 := escA_size h.sec
  have h3 := intS_le h.num.a
  have h4 := intS_le h.num.b
  have h5 := intS_le h.num.c
  have h6 := intS_le h.num.d
  have h1 := h.id
  rcases hs with rfl | rfl | rfl | rfl | rfl | rfl <;> omega
theorem line_le {k : Ky} (h : SmL k) : (lineK k).size ≤ 24000006 := by
  have h1 := joinB_le (sep := 32) (l := wordsK k) (M := 4000000) (words_le h)
  have e : (wordsK k).length = 6 := rfl
  rw [e] at h1
  unfold lineK
  omega
set_option maxHeartbeats 8000000 in
theorem rline_k (k : Ky) (t : ByteArray) (w : World) (h : SmL k) (ht : lineK k = t) :
    Calls Tryz.prog 52 #[kV k] w fun e w' => e = .returned (.string t) ∧ Below w.heap.size w w' := by
  have HWl := Lib.hid (words_le h)
  have HS := Lib.hid h
  unfold lineK wordsK at ht
  unfold wordsK at HWl
  obtain ⟨i, s, sf, su, af, au⟩ := k
  dsimp only at ht HWl
  obtain ⟨x, hx⟩ : ∃ x, escA s = x := ⟨_, rfl⟩
  obtain ⟨a, ha⟩ : ∃ x, intS sf = x := ⟨_, rfl⟩
  obtain ⟨b, hb⟩ : ∃ x, intS su = x := ⟨_, rfl⟩
  obtain ⟨c, hc⟩ : ∃ x, intS af = x := ⟨_, rfl⟩
  obtain ⟨d, hd⟩ : ∃ x, intS au = x := ⟨_, rfl⟩
  rw [hx, ha, hb, hc, hd] at ht HWl
  have HX := Lib.hid hx
  have HA := Lib.hid ha
  have HB := Lib.hid hb
  have HC := Lib.hid hc
  have HD := Lib.hid hd
  have HT := Lib.hid ht
  have hs1 : s.size ≤ 1000000000 := Nat.le_trans h.sec (by omega)
  have HN := Lib.hid h.num
  clear hx ha hb hc hd ht h
  have HR0 := Lib.hid (show RsB w w.heap.size ⟨i, s, sf, su, af, au⟩ (w.alloc (kB ⟨i, s, sf, su, af, au⟩)) from ⟨box_below w _, Nat.le_refl _, kbc_new w _⟩)
  have HR := Lib.hid (HR0.out.step (Below.refl (w.alloc (kB ⟨i, s, sf, su, af, au⟩)).heap.size (w.alloc (kB ⟨i, s, sf, su, af, au⟩))).drew)
  clear HR0
  have HSt : Hid (∀ V, RsB w w.heap.size ⟨i, s, sf, su, af, au⟩ V → V.cell? ⟨w.heap.size, 0, none⟩ = some (.string i) ∧ V.cell? ⟨w.heap.size, 1, none⟩ = some (.string s) ∧ V.cell? ⟨w.heap.size, 2, none⟩ = some (.int .i64 sf) ∧ V.cell? ⟨w.heap.size, 3, none⟩ = some (.int .i64 su) ∧ V.cell? ⟨w.heap.size, 4, none⟩ = some (.int .i64 af) ∧ V.cell? ⟨w.heap.size, 5, none⟩ = some (.int .i64 au)) := Lib.hid fun V h => kb_cells h.box
  have S0 := HSt.out _ HR.out
  dsimp only [kV, kcells]
  dsimp only [kB, kcells] at HR S0
  go_enter Tryz.func52, Tryz.ntmps52
  go_wp2_with fail
  refine wp_region_held_drew (S := fun V => V.cell? ⟨w.heap.size, 0, none⟩ = some (.string i) ∧ V.cell? ⟨w.heap.size, 1, none⟩ = some (.string s) ∧ V.cell? ⟨w.heap.size, 2, none⟩ = some (.int .i64 sf) ∧ V.cell? ⟨w.heap.size, 3, none⟩ = some (.int .i64 su) ∧ V.cell? ⟨w.heap.size, 4, none⟩ = some (.int .i64 af) ∧ V.cell? ⟨w.heap.size, 5, none⟩ = some (.int .i64 au)) (by kernel_rfl) (S0) (fun hS => ?_)
  refine wpAnyH_take (i := 0) (oi := { dst := some 4, op := _, type := _, pos := _, after := _, guard := _ }) (v := ?_) rfl (by kernel_rfl) (by kernel_rfl) (by kernel_rfl) (fun _ _ _ h => h) (Or.inl ⟨by rfl, ?_⟩) (by assumption) ?_
  rotate_left
  · intro w hSw
    try dsimp only at hSw
    go_simp
    try with_reducible rfl
  try simp only [Act.put, List.setIfInBounds_toArray, List.set_cons_zero, List.set_cons_succ]
  refine wpAnyH_take (i := 1) (oi := { dst := some 5, op := _, type := _, pos := _, after := _, guard := _ }) (v := ?_) rfl (by kernel_rfl) (by kernel_rfl) (by kernel_rfl) (fun _ _ _ h => h) (Or.inl ⟨by rfl, ?_⟩) (by assumption) ?_
  rotate_left
  · intro w hSw
    try dsimp only at hSw
    go_simp
    try with_reducible rfl
  try simp only [Act.put, List.setIfInBounds_toArray, List.set_cons_zero, List.set_cons_succ]
  refine wpAnyH_take (i := 2) (oi := { dst := some 6, op := _, type := _, pos := _, after := _, guard := _ }) (v := ?_) rfl (by kernel_rfl) (by kernel_rfl) (by kernel_rfl) (fun _ _ _ h => h) (Or.inl ⟨by rfl, ?_⟩) (by assumption) ?_
  rotate_left
  · intro w hSw
    try dsimp only at hSw
    go_simp
    try with_reducible rfl
  try simp only [Act.put, List.setIfInBounds_toArray, List.set_cons_zero, List.set_cons_succ]
  refine wpAnyH_take (i := 3) (oi := { dst := some 7, op := _, type := _, pos := _, after := _, guard := _ }) (v := ?_) rfl (by kernel_rfl) (by kernel_rfl) (by kernel_rfl) (fun _ _ _ h => h) (Or.inl ⟨by rfl, ?_⟩) (by assumption) ?_
  rotate_left
  · intro w hSw
    try dsimp only at hSw
    go_simp
    try with_reducible rfl
  try simp only [Act.put, List.setIfInBounds_toArray, List.set_cons_zero, List.set_cons_succ]
  refine wpAnyH_take (i := 5) (oi := { dst := some 9, op := _, type := _, pos := _, after := _, guard := _ }) (v := ?_) rfl (by kernel_rfl) (by kernel_rfl) (by kernel_rfl) (fun _ _ _ h => h) (Or.inl ⟨by rfl, ?_⟩) (by assumption) ?_
  rotate_left
  · intro w hSw
    try dsimp only at hSw
    go_simp
    try with_reducible rfl
  try simp only [Act.put, List.setIfInBounds_toArray, List.set_cons_zero, List.set_cons_succ]
  refine wpAnyH_take (i := 6) (oi := { dst := some 10, op := _, type := _, pos := _, after := _, guard := _ }) (v := ?_) rfl (by kernel_rfl) (by kernel_rfl) (by kernel_rfl) (fun _ _ _ h => h) (Or.inl ⟨by rfl, ?_⟩) (by assumption) ?_
  rotate_left
  · intro w hSw
    try dsimp only at hSw
    go_simp
    try with_reducible rfl
  try simp only [Act.put, List.setIfInBounds_toArray, List.set_cons_zero, List.set_cons_succ]
  refine wpAnyH_take (i := 7) (oi := { dst := some 11, op := _, type := _, pos := _, after := _, guard := _ }) (v := ?_) rfl (by kernel_rfl) (by kernel_rfl) (by kernel_rfl) (fun _ _ _ h => h) (Or.inl ⟨by rfl, ?_⟩) (by assumption) ?_
  rotate_left
  · intro w hSw
    try dsimp only at hSw
    go_simp
    try with_reducible rfl
  try simp only [Act.put, List.setIfInBounds_toArray, List.set_cons_zero, List.set_cons_succ]
  refine wpAnyH_take (i := 9) (oi := { dst := some 13, op := _, type := _, pos := _, after := _, guard := _ }) (v := ?_) rfl (by kernel_rfl) (by kernel_rfl) (by kernel_rfl) (fun _ _ _ h => h) (Or.inl ⟨by rfl, ?_⟩) (by assumption) ?_
  rotate_left
  · intro w hSw
    try dsimp only at hSw
    go_simp
    try with_reducible rfl
  try simp only [Act.put, List.setIfInBounds_toArray, List.set_cons_zero, List.set_cons_succ]
  refine wpAnyH_take (i := 10) (oi := { dst := some 14, op := _, type := _, pos := _, after := _, guard := _ }) (v := ?_) rfl (by kernel_rfl) (by kernel_rfl) (by kernel_rfl) (fun _ _ _ h => h) (Or.inl ⟨by rfl, ?_⟩) (by assumption) ?_
  rotate_left
  · intro w hSw
    try dsimp only at hSw
    go_simp
    try with_reducible rfl
  try simp only [Act.put, List.setIfInBounds_toArray, List.set_cons_zero, List.set_cons_succ]
  refine wpAnyH_take (i := 11) (oi := { dst := some 15, op := _, type := _, pos := _, after := _, guard := _ }) (v := ?_) rfl (by kernel_rfl) (by kernel_rfl) (by kernel_rfl) (fun _ _ _ h => h) (Or.inl ⟨by rfl, ?_⟩) (by assumption) ?_
  rotate_left
  · intro w hSw
    try dsimp only at hSw
    go_simp
    try with_reducible rfl
  try simp only [Act.put, List.setIfInBounds_toArray, List.set_cons_zero, List.set_cons_succ]
  refine wpAnyH_take (i := 13) (oi := { dst := some 17, op := _, type := _, pos := _, after := _, guard := _ }) (v := ?_) rfl (by kernel_rfl) (by kernel_rfl) (by kernel_rfl) (fun _ _ _ h => h) (Or.inl ⟨by rfl, ?_⟩) (by assumption) ?_
  rotate_left
  · intro w hSw
    try dsimp only at hSw
    go_simp
    try with_reducible rfl
  try simp only [Act.put, List.setIfInBounds_toArray, List.set_cons_zero, List.set_cons_succ]
  refine wpAnyH_take (i := 14) (oi := { dst := some 18, op := _, type := _, pos := _, after := _, guard := _ }) (v := ?_) rfl (by kernel_rfl) (by kernel_rfl) (by kernel_rfl) (fun _ _ _ h => h) (Or.inl ⟨by rfl, ?_⟩) (by assumption) ?_
  rotate_left
  · intro w hSw
    try dsimp only at hSw
    go_simp
    try with_reducible rfl
  try simp only [Act.put, List.setIfInBounds_toArray, List.set_cons_zero, List.set_cons_succ]
  refine wpAnyH_take (i := 15) (oi := { dst := some 19, op := _, type := _, pos := _, after := _, guard := _ }) (v := ?_) rfl (by kernel_rfl) (by kernel_rfl) (by kernel_rfl) (fun _ _ _ h => h) (Or.inl ⟨by rfl, ?_⟩) (by assumption) ?_
  rotate_left
  · intro w hSw
    try dsimp only at hSw
    go_simp
    try with_reducible rfl
  try simp only [Act.put, List.setIfInBounds_toArray, List.set_cons_zero, List.set_cons_succ]
  refine wpAnyH_take (i := 17) (oi := { dst := some 21, op := _, type := _, pos := _, after := _, guard := _ }) (v := ?_) rfl (by kernel_rfl) (by kernel_rfl) (by kernel_rfl) (fun _ _ _ h => h) (Or.inl ⟨by rfl, ?_⟩) (by assumption) ?_
  rotate_left
  · intro w hSw
    try dsimp only at hSw
    go_simp
    try with_reducible rfl
  try simp only [Act.put, List.setIfInBounds_toArray, List.set_cons_zero, List.set_cons_succ]
  refine wpAnyH_take (i := 18) (oi := { dst := some 22, op := _, type := _, pos := _, after := _, guard := _ }) (v := ?_) rfl (by kernel_rfl) (by kernel_rfl) (by kernel_rfl) (fun _ _ _ h => h) (Or.inl ⟨by rfl, ?_⟩) (by assumption) ?_
  rotate_left
  · intro w hSw
    try dsimp only at hSw
    go_simp
    try with_reducible rfl
  try simp only [Act.put, List.setIfInBounds_toArray, List.set_cons_zero, List.set_cons_succ]
  refine wpAnyH_take (i := 19) (oi := { dst := some 23, op := _, type := _, pos := _, after := _, guard := _ }) (v := ?_) rfl (by kernel_rfl) (by kernel_rfl) (by kernel_rfl) (fun _ _ _ h => h) (Or.inl ⟨by rfl, ?_⟩) (by assumption) ?_
  rotate_left
  · intro w hSw
    try dsimp only at hSw
    go_simp
    try with_reducible rfl
  try simp only [Act.put, List.setIfInBounds_toArray, List.set_cons_zero, List.set_cons_succ]
  refine wpAnyH_ready (rs := [4]) (by kernel_rfl) (by simp) ?_
  refine AllReadyH.cons rfl (fun K hK => ?_) AllReadyH.nil
  go_simp
  refine (resc_q s x _ hs1 HX.out).mono ?_
  rintro e v1 ⟨rfl, hb⟩
  have HR := Lib.hid (HR.out.step hb)
  clear hb
  go_wp2_with fail
  refine hK.out _ _ ?_ (fun hHeld => ?_)
  · exact HSt.out _ HR.out
  clear hK K
  try simp only [Act.put, List.setIfInBounds_toArray, List.set_cons_zero, List.set_cons_succ]
  refine wpAnyH_ready (rs := [8]) (by kernel_rfl) (by simp) ?_
  refine AllReadyH.cons rfl (fun K hK => ?_) AllReadyH.nil
  go_simp
  refine (rint_q sf a _ HN.out.a HA.out).mono ?_
  rintro e v2 ⟨rfl, hb⟩
  have HR := Lib.hid (HR.out.step hb)
  clear hb
  go_wp2_with fail
  refine hK.out _ _ ?_ (fun hHeld => ?_)
  · exact HSt.out _ HR.out
  clear hK K
  try simp only [Act.put, List.setIfInBounds_toArray, List.set_cons_zero, List.set_cons_succ]
  refine wpAnyH_ready (rs := [12]) (by kernel_rfl) (by simp) ?_
  refine AllReadyH.cons rfl (fun K hK => ?_) AllReadyH.nil
  go_simp
  refine (rint_q su b _ HN.out.b HB.out).mono ?_
  rintro e v3 ⟨rfl, hb⟩
  have HR := Lib.hid (HR.out.step hb)
  clear hb
  go_wp2_with fail
  refine hK.out _ _ ?_ (fun hHeld => ?_)
  · exact HSt.out _ HR.out
  clear hK K
  try simp only [Act.put, List.setIfInBounds_toArray, List.set_cons_zero, List.set_cons_succ]
  refine wpAnyH_ready (rs := [16]) (by kernel_rfl) (by simp) ?_
  refine AllReadyH.cons rfl (fun K hK => ?_) AllReadyH.nil
  go_simp
  refine (rint_q af c _ HN.out.c HC.out).mono ?_
  rintro e v4 ⟨rfl, hb⟩
  have HR := Lib.hid (HR.out.step hb)
  clear hb
  go_wp2_with fail
  refine hK.out _ _ ?_ (fun hHeld => ?_)
  · exact HSt.out _ HR.out
  clear hK K
  try simp only [Act.put, List.setIfInBounds_toArray, List.set_cons_zero, List.set_cons_succ]
  refine wpAnyH_ready (rs := [20]) (by kernel_rfl) (by simp) ?_
  refine AllReadyH.cons rfl (fun K hK => ?_) AllReadyH.nil
  go_simp
  refine (rint_q au d _ HN.out.d HD.out).mono ?_
  rintro e v5 ⟨rfl, hb⟩
  have HR := Lib.hid (HR.out.step hb)
  clear hb
  go_wp2_with fail
  refine hK.out _ _ ?_ (fun hHeld => ?_)
  · exact HSt.out _ HR.out
  clear hK K
  try simp only [Act.put, List.setIfInBounds_toArray, List.set_cons_zero, List.set_cons_succ]
  refine wpAnyH_ready (rs := [21]) (by kernel_rfl) (by simp) ?_
  refine AllReadyH.cons rfl (fun K hK => ?_) AllReadyH.nil
  go_simp
  refine hK.out _ _ ?_ (fun hHeld => ?_)
  · exact HSt.out _ (HR.out.step (box_below v5 _))
  clear hK K
  have HQ := Lib.hid (strs_6 v5 i x a b c d)
  have HR := Lib.hid (HR.out.step (box_below v5 (.cells #[.string i, .string x, .string a, .string b, .string c, .string d] 9)))
  try simp only [Act.put, List.setIfInBounds_toArray, List.set_cons_zero, List.set_cons_succ]
  refine wpAnyH_take (i := 22) (oi := { dst := some 3, op := _, type := _, pos := _, after := _, guard := _ }) (v := ?_) rfl (by kernel_rfl) (by kernel_rfl) (by kernel_rfl) (fun _ _ _ h => h) (Or.inl ⟨by rfl, ?_⟩) (by assumption) ?_
  rotate_left
  · intro w hSw
    try dsimp only at hSw
    go_simp
    try with_reducible rfl
  try simp only [Act.put, List.setIfInBounds_toArray, List.set_cons_zero, List.set_cons_succ]
  refine wpAnyH_done (by kernel_rfl) ?_ _
  go_wp2_with fail
  refine (between_k _ 6 6 [i, x, a, b, c, d] t _ HQ.out (by show 6 ≤ 1000; omega) (fun j hj => ?_) HT.out).mono ?_
  · rw [sA_get hj]; exact HWl.out _ (List.getElem_mem hj)
  rintro e w6 ⟨rfl, hb⟩
  have HR := Lib.hid (HR.out.step hb)
  clear hb
  go_wp2_with fail
  go_ret
  exact ⟨rfl, HR.out.low⟩
theorem tx_take {l : List Ky} {k : Nat} {g : Ky} (h : k < l.length) (hg : kA l k = g) : ofL (txL (l.take (k + 1))) = (ofL (txL (l.take k)) ++ lineK g) ++ ⟨#[10]⟩ := by
  rw [take_k l k h, hg, txL_snoc]
  apply ByteArray.ext
  rw [ByteArray.data_append, ByteArray.data_append]
  simp [ofL]
theorem tx_size {l : List Ky} (h : ∀ k ∈ l, SmL k) : (txL l).length ≤ l.length * 24000007 := by
  induction l with
  | nil => exact Nat.le_refl _
  | cons k l ih =>
    rw [txL_cons, List.length_append, List.length_cons, List.length_cons]
    have h1 := line_le (h k (List.mem_cons_self ..))
    rw [Lib.size_eq] at h1
    have h2 := ih fun q hq => h q (List.mem_cons_of_mem _ hq)
    omega
set_option maxHeartbeats 8000000 in
theorem rtext_k (ao : Option Addr) (n cap : Nat) (l : List Ky) (t : ByteArray) (z : Int) (w : World) (h : KsAt w ao n cap l) (hs : ∀ k ∈ l, k.id.size ≤ 1000000 ∧ k.sec.size ≤ 1000000) (hz : txtK l = (t, z)) :
    Calls Tryz.prog 27 #[.slice ao n cap] w fun e w' => e = .returned (.tuple #[.string t, .int .i64 z]) ∧ Below w.heap.size w w' := by
  have H := Lib.hid h
  obtain ⟨h1, h2, h3, _, _⟩ := h
  subst h1
  unfold maxLen at h3
  obtain ⟨c, qc⟩ : ∃ c, chkK l = c := ⟨_, rfl⟩
  have HQc := Lib.hid qc
  have HS := Lib.hid (show ∀ k ∈ l, SmK k from fun k hk => ⟨Nat.le_trans (hs k hk).1 (by omega), Nat.le_trans (hs k hk).2 (by omega)⟩)
  unfold txtK at hz
  cases qz : (c != 0)
  · have e0 : c = 0 := by simpa using qz
    subst e0
    have hok := okK_of qc
    have hn16 := hok.len
    have HL := Lib.hid (show ∀ k ∈ l, SmL k from fun k hk => ⟨(hs k hk).1, (hs k hk).2, win_inr (hok.win k hk)⟩)
    rw [if_neg (by rw [qc]; decide)] at hz
    have HZ := Lib.hid hz
    clear qz hz hs hok qc
    go_enter Tryz.func27, Tryz.ntmps27
    go_wp2_with fail
    refine (rcheck_k _ _ cap l _ _ H.out HS.out HQc.out).mono ?_
    rintro e w1 ⟨rfl, hb1⟩
    have HB1 := Lib.hid hb1
    clear hb1
    go_wp2_with fail
    go_loopw [5, 6] (fun sv iv wr => ∃ (k : Nat) (x : ByteArray), k ≤ l.length ∧ iv = .int .i64 k ∧ sv = .string x ∧ Hid (x = ofL (txL (l.take k))) ∧ x.size ≤ 400000000 ∧ Hid (Below w.heap.size w wr)) (fun _ iv _ => l.length - (intOf iv).toNat)
    case atStart => exact ⟨0, ⟨#[]⟩, Nat.zero_le _, rfl, rfl, Lib.hid rfl, Nat.zero_le _, HB1⟩
    case round =>
      clear HB1
      obtain ⟨k, x, hk, rfl, rfl, HX, hxs, HB⟩ := hrel
      by_cases hlt : k < l.length
      · obtain ⟨b, off, rfl, hsl⟩ := H.out.2.2.2.1 (by omega)
        have hat := (hsl.below HB.out hsl.1).at_ hlt
        obtain ⟨g, hg⟩ : ∃ g, kA l k = g := ⟨_, rfl⟩
        rw [hg] at hat
        have HG := Lib.hid (HL.out g (by rw [← hg]; exact k_mem hlt))
        have hft := tx_take hlt hg
        rw [← HX.out] at hft
        obtain ⟨y, hy⟩ : ∃ y, lineK g = y := ⟨_, rfl⟩
        have hys : y.size ≤ 24000006 := by rw [← hy]; exact line_le HG.out
        rw [hy] at hft
        have HY := Lib.hid hy
        have hbs : ((x ++ y) ++ (⟨#[10]⟩ : ByteArray)).size ≤ 400000000 := by
          rw [← hft]
          have := tx_size (l := l.take (k + 1)) fun q hq => HL.out q (List.mem_of_mem_take hq)
          rw [List.length_take] at this
          show (txL (l.take (k + 1))).length ≤ _
          omega
        have hx1 : (x ++ y).size = x.size + y.size := ByteArray.size_append
        have hx2 : (x ++ y).size ≤ 430000000 := by omega
        have HF := Lib.hid hft.symm
        obtain ⟨c0, c1, c2, c3, c4, c5⟩ := hat
        clear hsl hg hft hy
        go_wp2_with fail
        refine (rline_k g y _ HG.out HY.out).mono ?_
        rintro e w2 ⟨rfl, hb⟩
        have HB2 := Lib.hid (HB.out.trans (hb.mono HB.out.size))
        clear hb c0 c1 c2 c3 c4 c5
        go_wp2_with fail
        go_roundw
        case rel => exact ⟨k + 1, (x ++ y) ++ ⟨#[10]⟩, by omega, by go_num, rfl, HF, hbs, HB2⟩
        case measure => simp [intOf]; omega
      · obtain rfl : k = l.length := by omega
        have hx := HX.out
        rw [List.take_length] at hx
        have hxl : x.size = (txL l).length := by rw [hx]; rfl
        have hz := HZ.out
        by_cases d : 4096 < (txL l).length
        · rw [if_pos d] at hz
          obtain ⟨rfl, rfl⟩ := Prod.mk.inj hz
          have d1 : (4096 : Int) < (x.size : Int) := by omega
          clear hx hxl d hz
          go_wp2_with fail
          go_ret2
          exact ⟨rfl, HB.out⟩
        · rw [if_neg d] at hz
          obtain ⟨h5, rfl⟩ := Prod.mk.inj hz
          have HE := Lib.hid (show x = t by rw [hx, h5])
          have d1 : ¬ (4096 : Int) < (x.size : Int) := by omega
          clear hx hxl d hz h5
          go_wp2_with fail
          go_ret2
          exact ⟨by rw [HE.out]; rfl, HB.out⟩
  · have e0 : c ≠ 0 := by simpa using qz
    rw [if_pos (by rw [qc]; exact e0), qc] at hz
    obtain ⟨rfl, rfl⟩ := Prod.mk.inj hz
    clear hz qc hs
    go_enter Tryz.func27, Tryz.ntmps27
    go_wp2_with fail
    refine (rcheck_k _ _ cap l _ _ H.out HS.out HQc.out).mono ?_
    rintro e w1 ⟨rfl, hb1⟩
    have HB1 := Lib.hid hb1
    clear hb1
    go_wp2_with fail
    go_ret2
    exact ⟨rfl, HB1.out⟩
end Go.Proofs.YtgepcbggkfjlgaaGreatDoor
end

section
/-
  Contract of keys' bounds. Condition: none.
-/
set_option maxRecDepth 100000
set_option linter.unusedVariables false
set_option linter.unusedSimpArgs false
set_option linter.unnecessarySimpa false
namespace Go.Proofs.YtgepcbggkfjlgaaGreatDoor
open Go.RowKit Go.PlainAid

/-- the pointers to the bounds of a key -/
def ptB (b : Nat) : Obj := .cells #[.pointer (some ⟨b, 2, none⟩), .pointer (some ⟨b, 3, none⟩), .pointer (some ⟨b, 4, none⟩), .pointer (some ⟨b, 5, none⟩)] 92
set_option maxHeartbeats 4000000 in
theorem bounds_k (b : Nat) (g : Ky) (w : World) (h : KbC w b (kB g)) :
    Calls Tryz.prog 73 #[.pointer (some ⟨b, 0, none⟩)] w fun e w' => ∃ p, e = .returned (.slice (some ⟨p, 0, none⟩) 4 4) ∧ KbC w' p (ptB b) ∧ Below w.heap.size w w' ∧ w.heap.size ≤ p := by
  have H := Lib.hid h
  have HB := Lib.hid (Below.refl w.heap.size w).drew
  have HK := Lib.hid (H.out.step HB.out)
  obtain ⟨c0, c1, c2, c3, c4, c5⟩ := kb_cells HK.out
  clear h
  go_enter Tryz.func73, Tryz.ntmps73
  go_wp2_with fail
  refine wp_region_held_drew (S := fun V => True) (by kernel_rfl) (True.intro) (fun hS => ?_)
  obtain ⟨Z, hZ⟩ : ∃ x, w.drew = x := ⟨_, rfl⟩
  rw [hZ] at HB HK ⊢
  clear hZ
  refine wpAnyH_take (i := 0) (oi := { dst := some 3, op := _, type := _, pos := _, after := _, guard := _ }) (v := ?_) rfl (by kernel_rfl) (by kernel_rfl) (by kernel_rfl) (fun _ _ _ h => h) (Or.inl ⟨by rfl, ?_⟩) (by assumption) ?_
  rotate_left
  · intro w hSw
    try dsimp only at hSw
    go_simp
    try with_reducible rfl
  try simp only [Act.put, List.setIfInBounds_toArray, List.set_cons_zero, List.set_cons_succ]
  refine wpAnyH_take (i := 1) (oi := { dst := some 4, op := _, type := _, pos := _, after := _, guard := _ }) (v := ?_) rfl (by kernel_rfl) (by kernel_rfl) (by kernel_rfl) (fun _ _ _ h => h) (Or.inl ⟨by rfl, ?_⟩) (by assumption) ?_
  rotate_left
  · intro w hSw
    try dsimp only at hSw
    go_simp
    try with_reducible rfl
  try simp only [Act.put, List.setIfInBounds_toArray, List.set_cons_zero, List.set_cons_succ]
  refine wpAnyH_take (i := 2) (oi := { dst := some 5, op := _, type := _, pos := _, after := _, guard := _ }) (v := ?_) rfl (by kernel_rfl) (by kernel_rfl) (by kernel_rfl) (fun _ _ _ h => h) (Or.inl ⟨by rfl, ?_⟩) (by assumption) ?_
  rotate_left
  · intro w hSw
    try dsimp only at hSw
    go_simp
    try with_reducible rfl
  try simp only [Act.put, List.setIfInBounds_toArray, List.set_cons_zero, List.set_cons_succ]
  refine wpAnyH_take (i := 3) (oi := { dst := some 6, op := _, type := _, pos := _, after := _, guard := _ }) (v := ?_) rfl (by kernel_rfl) (by kernel_rfl) (by kernel_rfl) (fun _ _ _ h => h) (Or.inl ⟨by rfl, ?_⟩) (by assumption) ?_
  rotate_left
  · intro w hSw
    try dsimp only at hSw
    go_simp
    try with_reducible rfl
  try simp only [Act.put, List.setIfInBounds_toArray, List.set_cons_zero, List.set_cons_succ]
  refine wpAnyH_take (i := 4) (oi := { dst := some 7, op := _, type := _, pos := _, after := _, guard := _ }) (v := ?_) rfl (by kernel_rfl) (by kernel_rfl) (by kernel_rfl) (fun _ _ _ h => h) (Or.inl ⟨by rfl, ?_⟩) (by assumption) ?_
  rotate_left
  · intro w hSw
    try dsimp only at hSw
    go_simp
    try with_reducible rfl
  try simp only [Act.put, List.setIfInBounds_toArray, List.set_cons_zero, List.set_cons_succ]
  refine wpAnyH_take (i := 5) (oi := { dst := some 8, op := _, type := _, pos := _, after := _, guard := _ }) (v := ?_) rfl (by kernel_rfl) (by kernel_rfl) (by kernel_rfl) (fun _ _ _ h => h) (Or.inl ⟨by rfl, ?_⟩) (by assumption) ?_
  rotate_left
  · intro w hSw
    try dsimp only at hSw
    go_simp
    try with_reducible rfl
  try simp only [Act.put, List.setIfInBounds_toArray, List.set_cons_zero, List.set_cons_succ]
  refine wpAnyH_take (i := 6) (oi := { dst := some 9, op := _, type := _, pos := _, after := _, guard := _ }) (v := ?_) rfl (by kernel_rfl) (by kernel_rfl) (by kernel_rfl) (fun _ _ _ h => h) (Or.inl ⟨by rfl, ?_⟩) (by assumption) ?_
  rotate_left
  · intro w hSw
    try dsimp only at hSw
    go_simp
    try with_reducible rfl
  try simp only [Act.put, List.setIfInBounds_toArray, List.set_cons_zero, List.set_cons_succ]
  refine wpAnyH_take (i := 7) (oi := { dst := some 10, op := _, type := _, pos := _, after := _, guard := _ }) (v := ?_) rfl (by kernel_rfl) (by kernel_rfl) (by kernel_rfl) (fun _ _ _ h => h) (Or.inl ⟨by rfl, ?_⟩) (by assumption) ?_
  rotate_left
  · intro w hSw
    try dsimp only at hSw
    go_simp
    try with_reducible rfl
  try simp only [Act.put, List.setIfInBounds_toArray, List.set_cons_zero, List.set_cons_succ]
  refine wpAnyH_take (i := 8) (oi := { dst := some 11, op := _, type := _, pos := _, after := _, guard := _ }) (v := ?_) rfl (by kernel_rfl) (by kernel_rfl) (by kernel_rfl) (fun _ _ _ h => h) (Or.inl ⟨by rfl, ?_⟩) (by assumption) ?_
  rotate_left
  · intro w hSw
    try dsimp only at hSw
    go_simp
    try with_reducible rfl
  try simp only [Act.put, List.setIfInBounds_toArray, List.set_cons_zero, List.set_cons_succ]
  refine wpAnyH_take (i := 9) (oi := { dst := some 12, op := _, type := _, pos := _, after := _, guard := _ }) (v := ?_) rfl (by kernel_rfl) (by kernel_rfl) (by kernel_rfl) (fun _ _ _ h => h) (Or.inl ⟨by rfl, ?_⟩) (by assumption) ?_
  rotate_left
  · intro w hSw
    try dsimp only at hSw
    go_simp
    try with_reducible rfl
  try simp only [Act.put, List.setIfInBounds_toArray, List.set_cons_zero, List.set_cons_succ]
  refine wpAnyH_take (i := 10) (oi := { dst := some 13, op := _, type := _, pos := _, after := _, guard := _ }) (v := ?_) rfl (by kernel_rfl) (by kernel_rfl) (by kernel_rfl) (fun _ _ _ h => h) (Or.inl ⟨by rfl, ?_⟩) (by assumption) ?_
  rotate_left
  · intro w hSw
    try dsimp only at hSw
    go_simp
    try with_reducible rfl
  try simp only [Act.put, List.setIfInBounds_toArray, List.set_cons_zero, List.set_cons_succ]
  refine wpAnyH_take (i := 11) (oi := { dst := some 14, op := _, type := _, pos := _, after := _, guard := _ }) (v := ?_) rfl (by kernel_rfl) (by kernel_rfl) (by kernel_rfl) (fun _ _ _ h => h) (Or.inl ⟨by rfl, ?_⟩) (by assumption) ?_
  rotate_left
  · intro w hSw
    try dsimp only at hSw
    go_simp
    try with_reducible rfl
  try simp only [Act.put, List.setIfInBounds_toArray, List.set_cons_zero, List.set_cons_succ]
  refine wpAnyH_take (i := 12) (oi := { dst := some 15, op := _, type := _, pos := _, after := _, guard := _ }) (v := ?_) rfl (by kernel_rfl) (by kernel_rfl) (by kernel_rfl) (fun _ _ _ h => h) (Or.inl ⟨by rfl, ?_⟩) (by assumption) ?_
  rotate_left
  · intro w hSw
    try dsimp only at hSw
    go_simp
    try with_reducible rfl
  try simp only [Act.put, List.setIfInBounds_toArray, List.set_cons_zero, List.set_cons_succ]
  refine wpAnyH_take (i := 13) (oi := { dst := some 16, op := _, type := _, pos := _, after := _, guard := _ }) (v := ?_) rfl (by kernel_rfl) (by kernel_rfl) (by kernel_rfl) (fun _ _ _ h => h) (Or.inl ⟨by rfl, ?_⟩) (by assumption) ?_
  rotate_left
  · intro w hSw
    try dsimp only at hSw
    go_simp
    try with_reducible rfl
  try simp only [Act.put, List.setIfInBounds_toArray, List.set_cons_zero, List.set_cons_succ]
  refine wpAnyH_take (i := 14) (oi := { dst := some 17, op := _, type := _, pos := _, after := _, guard := _ }) (v := ?_) rfl (by kernel_rfl) (by kernel_rfl) (by kernel_rfl) (fun _ _ _ h => h) (Or.inl ⟨by rfl, ?_⟩) (by assumption) ?_
  rotate_left
  · intro w hSw
    try dsimp only at hSw
    go_simp
    try with_reducible rfl
  try simp only [Act.put, List.setIfInBounds_toArray, List.set_cons_zero, List.set_cons_succ]
  refine wpAnyH_take (i := 15) (oi := { dst := some 18, op := _, type := _, pos := _, after := _, guard := _ }) (v := ?_) rfl (by kernel_rfl) (by kernel_rfl) (by kernel_rfl) (fun _ _ _ h => h) (Or.inl ⟨by rfl, ?_⟩) (by assumption) ?_
  rotate_left
  · intro w hSw
    try dsimp only at hSw
    go_simp
    try with_reducible rfl
  try simp only [Act.put, List.setIfInBounds_toArray, List.set_cons_zero, List.set_cons_succ]
  refine wpAnyH_ready (rs := [16]) (by kernel_rfl) (by simp) ?_
  refine AllReadyH.cons rfl (fun K hK => ?_) AllReadyH.nil
  go_simp
  refine hK.out _ _ ?_ (fun hHeld => ?_)
  · exact True.intro
  clear hK K
  have HP := Lib.hid (show KbC (Z.alloc (ptB b)) Z.heap.size (ptB b) from kbc_new Z _)
  have HBz := Lib.hid (HB.out.trans ((box_below Z (ptB b)).mono HB.out.size))
  try simp only [Act.put, List.setIfInBounds_toArray, List.set_cons_zero, List.set_cons_succ]
  refine wpAnyH_take (i := 17) (oi := { dst := some 2, op := _, type := _, pos := _, after := _, guard := _ }) (v := ?_) rfl (by kernel_rfl) (by kernel_rfl) (by kernel_rfl) (fun _ _ _ h => h) (Or.inl ⟨by rfl, ?_⟩) (by assumption) ?_
  rotate_left
  · intro w hSw
    try dsimp only at hSw
    go_simp
    try with_reducible rfl
  try simp only [Act.put, List.setIfInBounds_toArray, List.set_cons_zero, List.set_cons_succ]
  refine wpAnyH_done (by kernel_rfl) ?_ _
  go_wp2_with fail
  go_ret
  exact ⟨_, rfl, HP.out, HBz.out, HB.out.size⟩
end Go.Proofs.YtgepcbggkfjlgaaGreatDoor
end
