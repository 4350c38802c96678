/-
  Pieces between bytes: strings.Split, strings.Join at one byte, and what they undo of one another. Condition: strings of at most 1100000 bytes, lists of at most 1000.
-/
import Derived.Test.YtminodinhbcgnaaDoorAttKind
import Derived.Test.YtminodinhbcgnaaDoorAttFrame
import Derived.Test.YtminodinhbcgnaaDoorAttIns
import Derived.Test.YtminodinhbcgnaaDoorCodecC
import Derived.Test.YtminodinhbcgnaaDoorCodecP
import Derived.Test.YtminodinhbcgnaaDoorShelfS
import Derived.Lib.SplitLaws
import Derived.Test.YtminodinhbcgnaaDoorSchStrs
import Derived.Test.YtminodinhbcgnaaDoorAttIns
import Derived.Lib.Join
set_option maxRecDepth 100000
set_option maxRecDepth 100000
set_option linter.unusedVariables false
set_option linter.unusedSimpArgs false
set_option linter.unnecessarySimpa false
namespace Go.Proofs.YtminodinhbcgnaaDoor
open Go.RowKit Go.PlainAid
theorem heap_cell {W : World} {b i : Nat} {c : Array Value} {t : TypeId} {v : Value} (h : W.heap[b]? = some (.cells c t)) (hv : c[i]? = some v) : W.cell? ⟨b, i, none⟩ = some v := by
  simp [World.cell?, h, hv]
def joinB (sep : UInt8) (l : List ByteArray) : ByteArray := ⟨(Lib.join (l.map (·.data.toList)) [sep]).toArray⟩
theorem join_le (sep : UInt8) (M : Nat) : ∀ l : List (List UInt8), (∀ x ∈ l, x.length ≤ M) → (Lib.join l [sep]).length ≤ l.length * (M + 1)
  | [], _ => by simp [Lib.join]
  | [x], h => by
    have := h x (List.mem_singleton.2 rfl)
    simp [Lib.join]; omega
  | x :: y :: r, h => by
    have h1 := h x (List.mem_cons_self ..)
    have ih := join_le sep M (y :: r) (fun z hz => h z (List.mem_cons_of_mem _ hz))
    have e : Lib.join (x :: y :: r) [sep] = x ++ [sep] ++ Lib.join (y :: r) [sep] := by simp [Lib.join]
    have e2 : (x :: y :: r).length * (M + 1) = (y :: r).length * (M + 1) + (M + 1) := by rw [List.length_cons, Nat.succ_mul]
    rw [e, List.length_append, List.length_append, e2]
    show x.length + 1 + (Lib.join (y :: r) [sep]).length ≤ _
    omega
theorem joinF_s (sep : UInt8) (ao : Option Addr) (n cap : Nat) (l : List ByteArray) (w : World) (h : StrsAt w ao n cap l) (hn : 0 < n) (hl : n ≤ 1000) (hz : ∀ s ∈ l, s.size ≤ 1000000000) :
    Calls Tryd.prog 30 #[.slice ao n cap, .string ⟨#[sep]⟩] w fun e w' => e = .returned (.string (joinB sep l)) ∧ Below w.heap.size w w' := by
  obtain ⟨h1, h2, h3, h4⟩ := h
  subst h1
  obtain ⟨b, off, rfl, hb, hc⟩ := h4 hn
  refine Tryd.strings_Join b off cap l ⟨#[sep]⟩ w (fun j x hj => ?_) hb (by omega) h2 ?_
  · obtain ⟨hj1, hj2⟩ := List.getElem?_eq_some_iff.1 hj
    have := hc j hj1
    unfold partAt at this
    rw [List.getD_eq_getElem?_getD, List.getElem?_eq_getElem hj1, hj2] at this
    exact this
  · have := join_le sep 1000000000 (l.map (·.data.toList)) (fun x hx => by
      obtain ⟨s, hs, rfl⟩ := List.mem_map.1 hx
      have := hz s hs
      rw [← Lib.size_eq]; exact this)
    rw [List.length_map] at this
    have h5 : l.length * (1000000000 + 1) ≤ 1000 * 1000000001 := Nat.mul_le_mul_right _ hl
    show (Lib.join (l.map (·.data.toList)) [sep]).length ≤ 140737488355328
    omega
theorem joinB_size {sep : UInt8} {l : List ByteArray} (hl : l.length ≤ 1000) (hz : ∀ s ∈ l, s.size ≤ 1000000000) : (joinB sep l).size ≤ 1000000001000 := by
  have := join_le sep 1000000000 (l.map (·.data.toList)) (fun x hx => by
    obtain ⟨s, hs, rfl⟩ := List.mem_map.1 hx
    have := hz s hs
    rw [← Lib.size_eq]; exact this)
  rw [List.length_map] at this
  have h5 : l.length * (1000000000 + 1) ≤ 1000 * 1000000001 := Nat.mul_le_mul_right _ hl
  unfold joinB
  rw [Lib.size_mk]; omega
theorem joinB_le {sep : UInt8} {l : List ByteArray} {M : Nat} (hz : ∀ s ∈ l, s.size ≤ M) : (joinB sep l).size ≤ l.length * (M + 1) := by
  have := join_le sep M (l.map (·.data.toList)) (fun x hx => by
    obtain ⟨s, hs, rfl⟩ := List.mem_map.1 hx
    have := hz s hs
    rw [← Lib.size_eq]; exact this)
  rw [List.length_map] at this
  unfold joinB
  rw [Lib.size_mk]; exact this
def partsB (sep : UInt8) (s : ByteArray) : List ByteArray := Lib.splitB ⟨#[sep]⟩ 0 (Lib.countB s ⟨#[sep]⟩) s
theorem split_small (sep : ByteArray) : ∀ (k : Nat) (s x : ByteArray), x ∈ Lib.splitB sep 0 k s → x.size ≤ s.size
  | 0, s, x, h => by rw [List.mem_singleton.1 h]; exact Nat.le_refl _
  | k + 1, s, x, h => by
    unfold Lib.splitB at h
    split at h
    · rw [List.mem_singleton.1 h]; exact Nat.le_refl _
    · rcases List.mem_cons.1 h with h | h
      · rw [h, ByteArray.size_extract]; omega
      · have := split_small sep k _ x h
        rw [ByteArray.size_extract] at this; omega
theorem partsB_small {sep : UInt8} {s x : ByteArray} (h : x ∈ partsB sep s) : x.size ≤ s.size := split_small _ _ _ _ h
theorem partsB_len (sep : UInt8) (s : ByteArray) : (partsB sep s).length = Lib.countB s ⟨#[sep]⟩ + 1 := Lib.splitB_all ⟨#[sep]⟩ (Nat.le_refl 1) 0 _ s rfl
theorem partsB_le (sep : UInt8) (s : ByteArray) : (partsB sep s).length ≤ s.size + 1 := by
  rw [partsB_len]
  have := Lib.countB_le ⟨#[sep]⟩ (Nat.le_refl 1) s.size s (Nat.le_refl _)
  omega
theorem splitF_s (sep : UInt8) (s : ByteArray) (w : World) (hs : s.size ≤ 1100000) (hm : MaxOk w) :
    Calls Tryd.prog 31 #[.string s, .string ⟨#[sep]⟩] w fun e w' => e = .returned (.slice (some ⟨w.heap.size, 0, none⟩) (partsB sep s).length (partsB sep s).length) ∧ StrsAt w' (some ⟨w.heap.size, 0, none⟩) (partsB sep s).length (partsB sep s).length (partsB sep s) ∧ Below w.heap.size w w' := by
  obtain ⟨m, hm⟩ := hm
  refine (Tryd.strings_Split s ⟨#[sep]⟩ m w (by omega) hm (Nat.le_refl 1)).mono ?_
  rintro e w' ⟨rfl, rfl⟩
  have hle := partsB_le sep s
  refine ⟨by rw [partsB_len], ⟨rfl, Nat.le_refl _, by unfold maxLen; omega, fun hn => ⟨_, 0, rfl, by simp, fun j hj => ?_⟩⟩, (Below.refl _ _).alloc (Nat.le_refl _) _⟩
  have h : (w.alloc (.cells ((partsB sep s).map Value.string).toArray 9)).heap[w.heap.size]? = some (.cells ((partsB sep s).map Value.string).toArray 9 (0, 0)) := heap_alloc_new w _
  refine heap_cell (W := w.alloc (.cells ((partsB sep s).map Value.string).toArray 9)) h ?_
  rw [Nat.zero_add, List.getElem?_toArray, List.getElem?_map, List.getElem?_eq_getElem hj]
  unfold partAt
  rw [List.getD_eq_getElem?_getD, List.getElem?_eq_getElem hj]; rfl
theorem pc_ne (c : UInt8) (l : List UInt8) : pieces c l ≠ [] := by
  cases l with
  | nil => simp [pieces]
  | cons x r =>
    unfold pieces
    split
    · simp
    · split <;> simp
theorem pc_app (c : UInt8) (y : List UInt8) : ∀ x : List UInt8, c ∉ x → pieces c (x ++ c :: y) = x :: pieces c y
  | [], _ => by show pieces c (c :: y) = _; conv => lhs; unfold pieces; rw [if_pos rfl]
  | a :: x, h => by
    have ha : a ≠ c := fun e => h (by rw [e]; simp)
    have ih := pc_app c y x (fun k => h (by simp [k]))
    show pieces c (a :: (x ++ c :: y)) = _
    conv => lhs; unfold pieces
    rw [if_neg ha, ih]
theorem pc_none (c : UInt8) (x : List UInt8) (h : c ∉ x) : pieces c x = [x] := pieces_miss c x (fun j hj => h (List.mem_of_getElem? hj))
theorem pc_free (c : UInt8) : ∀ l : List UInt8, ∀ p ∈ pieces c l, c ∉ p
  | [], p, hp => by simp [pieces] at hp; rw [hp]; simp
  | a :: r, p, hp => by
    have ih := pc_free c r
    unfold pieces at hp
    split at hp
    · rcases List.mem_cons.1 hp with h | h
      · rw [h]; simp
      · exact ih p h
    · rename_i hne
      split at hp
      · rename_i q qs e
        rw [e] at ih
        rcases List.mem_cons.1 hp with h | h
        · rw [h]; intro k
          rcases List.mem_cons.1 k with k | k
          · exact hne k.symm
          · exact ih q (by simp) k
        · exact ih p (by simp [h])
      · rename_i e; exact absurd e (pc_ne c r)
theorem join_two (x y : List UInt8) (r : List (List UInt8)) (c : UInt8) : Lib.join (x :: y :: r) [c] = x ++ c :: Lib.join (y :: r) [c] := by
  rw [Lib.join_cons, Lib.join_cons]; simp [Lib.joinTail]
theorem pc_join (c : UInt8) : ∀ ps : List (List UInt8), ps ≠ [] → (∀ p ∈ ps, c ∉ p) → pieces c (Lib.join ps [c]) = ps
  | [], h, _ => absurd rfl h
  | [x], _, h => by rw [Lib.join_one]; exact pc_none c x (h x (by simp))
  | x :: y :: r, _, h => by
    rw [join_two, pc_app c _ x (h x (by simp)), pc_join c (y :: r) (by simp) (fun p hp => h p (by simp [hp]))]
theorem join_pc (c : UInt8) : ∀ l : List UInt8, Lib.join (pieces c l) [c] = l
  | [] => by simp [pieces, Lib.join_one]
  | a :: r => by
    have ih := join_pc c r
    unfold pieces
    split
    · rename_i e
      cases hp : pieces c r with
      | nil => exact absurd hp (pc_ne c r)
      | cons q qs => rw [hp] at ih; rw [join_two, ih, e]; rfl
    · split
      · rename_i q qs e
        rw [e] at ih
        rw [Lib.join_cons] at ih ⊢
        rw [List.cons_append, ih]
      · rename_i e; exact absurd e (pc_ne c r)
theorem splitB_pc (c : UInt8) : ∀ (n : Nat) (s : ByteArray), s.size ≤ n → (Lib.splitB ⟨#[c]⟩ 0 (Lib.countB s ⟨#[c]⟩) s).map (·.data.toList) = pieces c s.data.toList := by
  intro n
  induction n with
  | zero =>
    intro s hs
    have h0 : s.data.toList = [] := List.length_eq_zero_iff.1 (by rw [← Lib.size_eq]; omega)
    have hi : Lib.indexB s ⟨#[c]⟩ = -1 := by
      rcases Lib.index_spec s.data.toList [c] with ⟨hi, _⟩ | ⟨i, _, hle, ho, _⟩
      · exact hi
      · have hg := (occ_one _ _ _).1 ho
        rw [h0] at hg; simp at hg
    rw [Lib.splitB_miss _ _ _ _ hi, h0]
    simp [pieces, h0]
  | succ n ih =>
    intro s hs
    rcases Lib.index_spec s.data.toList [c] with ⟨hi, hn⟩ | ⟨i, hi, hle, ho, hno⟩
    · have hi' : Lib.indexB s ⟨#[c]⟩ = -1 := hi
      rw [Lib.splitB_miss _ _ _ _ hi', pieces_miss c s.data.toList (fun j hj => by
        have hlt : j < s.data.toList.length := (List.getElem?_eq_some_iff.1 hj).1
        have := hn j (by omega)
        rw [(occ_one _ _ _).2 hj] at this
        cases this)]
      rfl
    · have hi' : Lib.indexB s ⟨#[c]⟩ = i := hi
      have hget := (occ_one _ _ _).1 ho
      have hlt : i < s.data.toList.length := (List.getElem?_eq_some_iff.1 hget).1
      have hno' : ∀ j, j < i → s.data.toList[j]? ≠ some c := fun j hj h => by
        have := hno j hj
        rw [(occ_one _ _ _).2 h] at this
        cases this
      have h1 : (⟨#[c]⟩ : ByteArray).size = 1 := rfl
      rw [Lib.countB_hit s ⟨#[c]⟩ i (by rw [h1]; exact Nat.le_refl _) hi', Nat.add_comm, Lib.splitB_hit _ _ _ _ i hi', List.map_cons, h1]
      have hsz := Lib.size_eq s
      have hr := ih (s.extract (i + 1) s.size) (by rw [Lib.size_eq, Lib.extract_to_end, List.length_drop]; omega)
      rw [hr, pieces_hit c _ i hget hno', Lib.extract_to_end, Lib.extract_from_zero, Nat.add_zero]
theorem partsB_pc (c : UInt8) (s : ByteArray) : (partsB c s).map (·.data.toList) = pieces c s.data.toList := splitB_pc c _ s (Nat.le_refl _)
theorem parts_ofL (c : UInt8) (s : ByteArray) : partsB c s = (pieces c s.data.toList).map ofL := by
  rw [← partsB_pc, List.map_map]
  conv => lhs; rw [← List.map_id (partsB c s)]
  exact List.map_congr_left fun x _ => (Lib.mk_data x).symm
theorem map_inj {a b : List ByteArray} (h : a.map (·.data.toList) = b.map (·.data.toList)) : a = b := by
  have : ∀ x : List ByteArray, x.map (fun s => ofL s.data.toList) = x := fun x => by
    conv => rhs; rw [← List.map_id x]
    exact List.map_congr_left (fun s _ => Lib.mk_data s)
  have h2 := congrArg (List.map ofL) h
  rw [List.map_map, List.map_map] at h2
  have e1 := this a
  have e2 := this b
  rw [← e1, ← e2]
  exact h2
/-- split of a join, join of a split -/
theorem parts_join {c : UInt8} {l : List ByteArray} (hl : l ≠ []) (h : ∀ s ∈ l, c ∉ s.data.toList) : partsB c (joinB c l) = l := by
  refine map_inj ?_
  rw [partsB_pc]
  show pieces c (Lib.join (l.map (·.data.toList)) [c]) = _
  exact pc_join c _ (by simpa using hl) (fun p hp => by obtain ⟨s, hs, rfl⟩ := List.mem_map.1 hp; exact h s hs)
theorem join_parts (c : UInt8) (s : ByteArray) : joinB c (partsB c s) = s := by
  unfold joinB
  rw [partsB_pc, join_pc]
theorem join_free {c b : UInt8} (hb : c ≠ b) : ∀ ps : List (List UInt8), (∀ p ∈ ps, c ∉ p) → c ∉ Lib.join ps [b]
  | [], _ => by rw [Lib.join_nil]; simp
  | [x], h => by rw [Lib.join_one]; exact h x (by simp)
  | x :: y :: r, h => by
    rw [join_two]
    intro k
    rcases List.mem_append.1 k with k | k
    · exact h x (by simp) k
    · rcases List.mem_cons.1 k with k | k
      · exact hb k
      · exact join_free hb (y :: r) (fun p hp => h p (by simp [hp])) k
theorem joinB_free {c b : UInt8} (hb : c ≠ b) {l : List ByteArray} (h : ∀ s ∈ l, c ∉ s.data.toList) : c ∉ (joinB b l).data.toList :=
  join_free hb _ (fun p hp => by obtain ⟨s, hs, rfl⟩ := List.mem_map.1 hp; exact h s hs)
theorem cut_mk (x y : List UInt8) (b : UInt8) (hx : b ∉ x) : cutOk (ofL (x ++ b :: y)) ⟨#[b]⟩ = true ∧ cutBef (ofL (x ++ b :: y)) ⟨#[b]⟩ = ofL x ∧ cutAft (ofL (x ++ b :: y)) ⟨#[b]⟩ = ofL y := by
  have e0 : (ofL (x ++ b :: y)).data.toList = x ++ b :: y := rfl
  have hp := pc_app b y x hx
  rcases cut_one (ofL (x ++ b :: y)) b with k | k
  · have k2 := k.2.1
    rw [e0, hp] at k2
    injection k2 with h1 h2
    refine ⟨k.1, ?_, ?_⟩
    · exact (Lib.mk_data _).symm.trans (congrArg ofL h1.symm)
    · have h3 := (join_pc b (cutAft (ofL (x ++ b :: y)) ⟨#[b]⟩).data.toList).symm.trans ((congrArg (fun p => Lib.join p [b]) h2.symm).trans (join_pc b y))
      exact (Lib.mk_data _).symm.trans (congrArg ofL h3)
  · have k2 := k.2.1
    rw [e0, hp] at k2
    injection k2 with h1 h2
    exact absurd h2 (pc_ne b y)
theorem cut_split (t : ByteArray) (b : UInt8) (h : cutOk t ⟨#[b]⟩ = true) : t.data.toList = (cutBef t ⟨#[b]⟩).data.toList ++ b :: (cutAft t ⟨#[b]⟩).data.toList := by
  rcases cut_one t b with k | k
  · have h1 := join_pc b t.data.toList
    rw [k.2.1] at h1
    have h2 := join_pc b (cutAft t ⟨#[b]⟩).data.toList
    cases e : pieces b (cutAft t ⟨#[b]⟩).data.toList with
    | nil => exact absurd e (pc_ne b _)
    | cons q r =>
      rw [e] at h1 h2
      rw [← h1, join_two, h2]
  · rw [k.1] at h; cases h
theorem parts_cut {s : ByteArray} {c : UInt8} (h : cutOk s ⟨#[c]⟩ = true) : partsB c s = cutBef s ⟨#[c]⟩ :: partsB c (cutAft s ⟨#[c]⟩) := by
  rw [parts_ofL, parts_ofL]
  rcases cut_one s c with ⟨_, h2⟩ | ⟨h1, _⟩
  · rw [h2.1, List.map_cons]
    congr 1
  · rw [h1] at h; cases h
theorem parts_uncut {s : ByteArray} {c : UInt8} (h : cutOk s ⟨#[c]⟩ ≠ true) : partsB c s = [s] := by
  rw [parts_ofL]
  rcases cut_one s c with ⟨h1, _⟩ | ⟨_, h2⟩
  · exact absurd h1 h
  · rw [h2.1, List.map_cons, List.map_nil]; congr 1
theorem parts_ne (c : UInt8) (s : ByteArray) : partsB c s ≠ [] := by
  rw [parts_ofL]
  intro e
  exact pc_ne c _ (List.map_eq_nil_iff.1 e)

end Go.Proofs.YtminodinhbcgnaaDoor
