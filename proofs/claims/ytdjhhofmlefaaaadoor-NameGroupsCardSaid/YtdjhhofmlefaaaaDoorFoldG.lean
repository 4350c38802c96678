/-
  Plain facts on folding: idempotent, contained, and values stay values. No condition.
-/
import Derived.Test.YtdjhhofmlefaaaaDoorFoldF
set_option linter.unusedVariables false
set_option linter.unusedSimpArgs false
set_option linter.unnecessarySimpa false
namespace Go.Proofs.YtdjhhofmlefaaaaDoor
open Go.PlainAid

theorem lowB_32 (c : UInt8) : (lowB c == 32) = (c == 32) := by
  unfold lowB
  split
  · rename_i h
    have h1 : c ≠ 32 := fun e => by subst e; have : (32 : UInt8).toNat = 32 := rfl; omega
    have h2 : c + 32 ≠ 32 := fun e => by
      have := congrArg UInt8.toNat e
      rw [UInt8.toNat_add] at this
      have h3 : (32 : UInt8).toNat = 32 := rfl
      omega
    rw [beq_eq_false_iff_ne.2 h1, beq_eq_false_iff_ne.2 h2]
  · rfl
theorem lowB_low (c : UInt8) : lowB (lowB c) = lowB c := by
  have h3 : (32 : UInt8).toNat = 32 := rfl
  by_cases h : 65 ≤ c.toNat ∧ c.toNat ≤ 90
  · have e : (lowB c).toNat = c.toNat + 32 := by
      unfold lowB; rw [if_pos h, UInt8.toNat_add]; omega
    have h2 : ∀ d : UInt8, ¬ (65 ≤ d.toNat ∧ d.toNat ≤ 90) → lowB d = d := fun d hd => by unfold lowB; rw [if_neg hd]
    exact h2 _ (by omega)
  · have e : lowB c = c := by unfold lowB; rw [if_neg h]
    rw [e, e]
theorem lowL_low (l : List UInt8) : lowL (lowL l) = lowL l := by
  unfold lowL; rw [List.map_map]; apply List.map_congr_left; intro c _; exact lowB_low c

/-! ### trimming -/
theorem left_low (l : List UInt8) : Lib.trimLeftB (lowL l) 32 = lowL (Lib.trimLeftB l 32) := by
  unfold Lib.trimLeftB lowL
  induction l with
  | nil => rfl
  | cons c l ih =>
    rw [List.map_cons, List.dropWhile_cons, List.dropWhile_cons, lowB_32]
    by_cases h : (c == 32) = true
    · rw [if_pos h, if_pos h, ih]
    · rw [if_neg h, if_neg h, List.map_cons]
theorem right_low (l : List UInt8) : Lib.trimRightB (lowL l) 32 = lowL (Lib.trimRightB l 32) := by
  have h := left_low l.reverse
  unfold Lib.trimLeftB lowL at h
  unfold Lib.trimRightB lowL
  rw [← List.map_reverse, h, List.map_reverse]
theorem trimR_low (l : List UInt8) : trimR (lowL l) = lowL (trimR l) := by
  unfold trimR; rw [left_low, right_low]
/-- no space at either end -/
def noSp (l : List UInt8) : Prop := (∀ c, l.head? = some c → c ≠ 32) ∧ (∀ c, l.getLast? = some c → c ≠ 32)
theorem left_head (l : List UInt8) (c : UInt8) (h : (Lib.trimLeftB l 32).head? = some c) : c ≠ 32 := by
  unfold Lib.trimLeftB at h
  intro e
  subst e
  have := List.head?_dropWhile_not (fun x : UInt8 => x == 32) l
  rw [h] at this
  simp at this
theorem left_id (l : List UInt8) (h : ∀ c, l.head? = some c → c ≠ 32) : Lib.trimLeftB l 32 = l := by
  unfold Lib.trimLeftB
  cases l with
  | nil => rfl
  | cons c l =>
    rw [List.dropWhile_cons, if_neg]
    have := h c rfl
    simpa using this
theorem right_id (l : List UInt8) (h : ∀ c, l.getLast? = some c → c ≠ 32) : Lib.trimRightB l 32 = l := by
  have := left_id l.reverse (fun c hc => h c (by rw [← List.head?_reverse]; exact hc))
  unfold Lib.trimLeftB at this
  unfold Lib.trimRightB
  rw [this, List.reverse_reverse]
theorem right_last (l : List UInt8) (c : UInt8) (h : (Lib.trimRightB l 32).getLast? = some c) : c ≠ 32 := by
  unfold Lib.trimRightB at h
  rw [List.getLast?_reverse] at h
  exact left_head l.reverse c h
theorem trimR_noSp (l : List UInt8) : noSp (trimR l) := by
  refine ⟨fun c h => ?_, fun c h => right_last _ c h⟩
  unfold trimR at h
  rw [← trim_swap] at h
  exact left_head _ c h
theorem trimR_id {l : List UInt8} (h : noSp l) : trimR l = l := by
  unfold trimR; rw [left_id l h.1, right_id l h.2]
theorem noSp_low {l : List UInt8} (h : noSp l) : noSp (lowL l) := by
  refine ⟨fun c hc => ?_, fun c hc => ?_⟩
  · unfold lowL at hc
    rw [List.head?_map] at hc
    obtain ⟨b, hb, rfl⟩ := Option.map_eq_some_iff.1 hc
    have := h.1 b hb
    have e := lowB_32 b
    intro e2
    rw [e2] at e
    simp at e
    exact this (by first | exact e | exact e.symm)
  · unfold lowL at hc
    rw [List.getLast?_map] at hc
    obtain ⟨b, hb, rfl⟩ := Option.map_eq_some_iff.1 hc
    have := h.2 b hb
    have e := lowB_32 b
    intro e2
    rw [e2] at e
    simp at e
    exact this (by first | exact e | exact e.symm)

/-! ### squeezing -/
def sqR : Bool → List UInt8 → List UInt8
  | _, [] => []
  | p, c :: l => if (c == 32) = true ∧ p = true then sqR true l else c :: sqR (c == 32) l
def lastSp : Bool → List UInt8 → Bool
  | p, [] => p
  | _, c :: l => lastSp (c == 32) l
theorem sqR_snoc : ∀ (l : List UInt8) (p : Bool) (c : UInt8), sqR p (l ++ [c]) = sqR p l ++ (if (c == 32) = true ∧ lastSp p l = true then [] else [c])
  | [], p, c => by simp [sqR, lastSp]
  | x :: l, p, c => by
    rw [List.cons_append]
    unfold sqR lastSp
    by_cases h : (x == 32) = true ∧ p = true
    · rw [if_pos h, if_pos h, sqR_snoc l true c, h.1]
    · rw [if_neg h, if_neg h, sqR_snoc l _ c, List.cons_append]
theorem lastSp_snoc : ∀ (l : List UInt8) (p : Bool) (c : UInt8), lastSp p (l ++ [c]) = (c == 32)
  | [], _, _ => rfl
  | x :: l, p, c => by rw [List.cons_append]; unfold lastSp; exact lastSp_snoc l _ c
theorem sqN_sqR (l : List UInt8) : ∀ k, k ≤ l.length → sqN l k = sqR false (l.take k)
  | 0, _ => by simp [sqN, sqR]
  | k + 1, hk => by
    have hlt : k < l.length := by omega
    have ih := sqN_sqR l k (by omega)
    unfold sqN
    rw [ih, List.take_succ_eq_append_getElem hlt, sqR_snoc]
    congr 1
    have e1 : l.getD k 0 = l[k] := by rw [List.getD_eq_getElem?_getD, List.getElem?_eq_getElem hlt]; rfl
    rw [e1]
    by_cases h0 : 0 < k
    · obtain ⟨j, rfl⟩ : ∃ j, k = j + 1 := ⟨k - 1, by omega⟩
      have e2 : l.getD (j + 1 - 1) 0 = l[j]'(by omega) := by rw [Nat.add_sub_cancel, List.getD_eq_getElem?_getD, List.getElem?_eq_getElem (by omega)]; rfl
      rw [e2, List.take_succ_eq_append_getElem (by omega : j < l.length), lastSp_snoc]
      by_cases h1 : l[j + 1] = 32
      · by_cases h2 : l[j]'(by omega) = 32
        · rw [if_pos ⟨h1, h0, h2⟩, if_pos ⟨by simp [h1], by simp [h2]⟩]
        · rw [if_neg (fun h => h2 h.2.2), if_neg (fun h => h2 (by simpa using h.2))]
      · rw [if_neg (fun h => h1 h.1), if_neg (fun h => h1 (by simpa using h.1))]
    · have : k = 0 := by omega
      subst this
      rw [if_neg (fun h => absurd h.2.1 (by omega)), List.take_zero]
      rw [if_neg (fun h => by simp [lastSp] at h)]
theorem sqL_sqR (l : List UInt8) : sqL l = sqR false l := by unfold sqL; rw [sqN_sqR l l.length (Nat.le_refl _), List.take_length]
theorem sqR_sq : ∀ (l : List UInt8) (p : Bool), sqR p (sqR p l) = sqR p l
  | [], _ => rfl
  | c :: l, p => by
    by_cases h : (c == 32) = true ∧ p = true
    · have e : sqR p (c :: l) = sqR true l := by conv => lhs; unfold sqR
                                                 rw [if_pos h]
      rw [e, h.2]; exact sqR_sq l true
    · have e : ∀ m, sqR p (c :: m) = c :: sqR (c == 32) m := fun m => by conv => lhs; unfold sqR
                                                                         rw [if_neg h]
      rw [e, e, sqR_sq l _]
theorem sqR_low : ∀ (l : List UInt8) (p : Bool), lowL (sqR p l) = sqR p (lowL l)
  | [], _ => rfl
  | c :: l, p => by
    have e : lowL (c :: l) = lowB c :: lowL l := rfl
    rw [e]
    unfold sqR
    rw [lowB_32]
    by_cases h : (c == 32) = true ∧ p = true
    · rw [if_pos h, if_pos h]; exact sqR_low l true
    · rw [if_neg h, if_neg h]
      have := sqR_low l (c == 32)
      rw [← this]; rfl
theorem sqR_head (l : List UInt8) : (sqR false l).head? = l.head? := by
  cases l with
  | nil => rfl
  | cons c l => unfold sqR; rw [if_neg (by simp)]; rfl
theorem noSp_sq {l : List UInt8} (h : noSp l) : noSp (sqR false l) := by
  refine ⟨fun c hc => h.1 c (by rw [← sqR_head]; exact hc), fun c hc => ?_⟩
  rcases List.eq_nil_or_concat l with rfl | ⟨m, x, rfl⟩
  · simp [sqR] at hc
  · have hx : x ≠ 32 := h.2 x (by simp)
    rw [List.concat_eq_append, sqR_snoc, if_neg (fun e => hx (by simpa using e.1)), List.getLast?_append] at hc
    simp at hc
    rw [← hc]; exact hx
theorem sqR_mem : ∀ (l : List UInt8) (p : Bool) (c : UInt8), c ∈ sqR p l → c ∈ l
  | [], _, _, h => h
  | x :: l, p, c, h => by
    unfold sqR at h
    by_cases hp : (x == 32) = true ∧ p = true
    · rw [if_pos hp] at h; exact List.mem_cons_of_mem _ (sqR_mem l true c h)
    · rw [if_neg hp] at h
      rcases List.mem_cons.1 h with e | h
      · rw [e]; exact List.mem_cons_self
      · exact List.mem_cons_of_mem _ (sqR_mem l _ c h)

/-! ### on byte arrays -/
theorem data_mk (l : List UInt8) : (⟨l.toArray⟩ : ByteArray).data.toList = l := rfl
theorem lowS_low (s : ByteArray) : lowS (lowS s) = lowS s := by unfold lowS; rw [data_mk, lowL_low]
theorem trimS_trim (s : ByteArray) : trimS (trimS s) = trimS s := by unfold trimS; rw [data_mk, trimR_id (trimR_noSp _)]
def foldL (l : List UInt8) : List UInt8 := sqR false (lowL (trimR l))
theorem foldS_list (s : ByteArray) : foldS s = ⟨(foldL s.data.toList).toArray⟩ := by
  unfold foldS sqS lowS trimS foldL
  rw [data_mk, data_mk, sqL_sqR]
theorem foldS_data (s : ByteArray) : (foldS s).data.toList = foldL s.data.toList := by rw [foldS_list]
theorem foldL_noSp (l : List UInt8) : noSp (foldL l) := noSp_sq (noSp_low (trimR_noSp l))
theorem foldL_fold (l : List UInt8) : foldL (foldL l) = foldL l := by
  have e : ∀ m, foldL m = sqR false (lowL (trimR m)) := fun _ => rfl
  rw [e (foldL l), trimR_id (foldL_noSp l), e l, sqR_low, lowL_low, sqR_sq]
theorem foldS_fold (s : ByteArray) : foldS (foldS s) = foldS s := by
  rw [foldS_list (foldS s), foldS_data, foldL_fold, ← foldS_list]
theorem foldS_low (s : ByteArray) : foldS (lowS s) = foldS s := by
  rw [foldS_list, foldS_list]; unfold lowS foldL; rw [data_mk, trimR_low, lowL_low]
theorem foldS_trim (s : ByteArray) : foldS (trimS s) = foldS s := by
  rw [foldS_list, foldS_list]; unfold trimS foldL; rw [data_mk, trimR_id (trimR_noSp _)]
theorem foldS_trim_size (s : ByteArray) : (foldS s).size ≤ (trimS s).size := by
  unfold foldS
  have h1 := sqS_size (lowS (trimS s)); have h2 := lowS_size (trimS s)
  omega

/-- a value's normal form is a value -/
theorem clean_fold (s : ByteArray) (h : cleanB s = true) : cleanB (foldS s) = true := by
  unfold cleanB at h
  simp only [Bool.and_eq_true, decide_eq_true_eq, Bool.not_eq_true'] at h
  obtain ⟨⟨⟨⟨h1, h2⟩, h3⟩, h4⟩, h5⟩ := h
  have hall := allB_iff.1 h5
  have hns := foldL_noSp s.data.toList
  have hd := foldS_data s
  have hsz : (foldS s).size = (foldL s.data.toList).length := by rw [Lib.size_eq, hd]
  have hne : s.data.toList ≠ [] := fun e => by rw [Lib.size_eq, e] at h1; simp at h1
  have hnsp : noSp s.data.toList := by
    refine ⟨fun c hc => ?_, fun c hc => ?_⟩
    · intro e; subst e
      rw [List.head?_eq_getElem?] at hc
      rw [bt_list s 0 32 hc] at h3
      simp at h3
    · intro e; subst e
      rw [List.getLast?_eq_getElem?, ← Lib.size_eq] at hc
      rw [bt_list s (s.size - 1) 32 hc] at h4
      simp at h4
  have hfl : foldL s.data.toList = sqR false (lowL s.data.toList) := by unfold foldL; rw [trimR_id hnsp]
  have hpos : 1 ≤ (foldL s.data.toList).length := by
    rw [hfl]
    cases e : lowL s.data.toList with
    | nil => unfold lowL at e; exact absurd (List.map_eq_nil_iff.1 e) hne
    | cons c l => unfold sqR; rw [if_neg (by simp)]; simp
  have hle := foldS_size s
  have hbyte : ∀ j, j < (foldS s).size → ∃ c, (foldS s).data.toList[j]? = some c := fun j hj => ⟨_, List.getElem?_eq_getElem (by rw [← Lib.size_eq]; exact hj)⟩
  unfold cleanB
  have g3 : (bt (foldS s) 0 == 32) = false := by
    obtain ⟨c, hc⟩ := hbyte 0 (by omega)
    rw [bt_list _ _ _ hc]
    rw [hd] at hc
    have := hns.1 c (by rw [List.head?_eq_getElem?]; exact hc)
    rw [beq_eq_false_iff_ne]
    exact fun e => this (byte_32 c e)
  have g4 : (bt (foldS s) ((foldS s).size - 1) == 32) = false := by
    obtain ⟨c, hc⟩ := hbyte ((foldS s).size - 1) (by omega)
    rw [bt_list _ _ _ hc]
    rw [hd, hsz] at hc
    have := hns.2 c (by rw [List.getLast?_eq_getElem?]; exact hc)
    rw [beq_eq_false_iff_ne]
    exact fun e => this (byte_32 c e)
  have g5 : allB cleanP (foldS s) = true := allB_true fun j hj => by
    obtain ⟨c, hc⟩ := hbyte j hj
    rw [bt_list _ _ _ hc]
    rw [hd, hfl] at hc
    have hm := sqR_mem _ _ _ (List.mem_of_getElem? hc)
    unfold lowL at hm
    obtain ⟨b, hb, rfl⟩ := List.mem_map.1 hm
    obtain ⟨i, hi, rfl⟩ := List.getElem_of_mem hb
    have hcl := hall i (by rw [Lib.size_eq]; exact hi)
    rw [bt_list s i _ (List.getElem?_eq_getElem hi)] at hcl
    unfold cleanP at hcl ⊢
    simp only [Bool.and_eq_true, decide_eq_true_eq] at hcl ⊢
    by_cases hA : 65 ≤ ((s.data.toList[i]).toNat : Int) ∧ ((s.data.toList[i]).toNat : Int) ≤ 90
    · rw [lowB_hit _ hA.1 hA.2]; omega
    · rw [lowB_miss _ hA]; exact hcl
  rw [g3, g4, g5]
  simp
  omega

end Go.Proofs.YtdjhhofmlefaaaaDoor
