/-
  Texts of the schema layer and of those beneath it, joined: ChgPc, KbC, KeyMem, KeyL, KeyP. Conditions stand at each contract.
-/
import Derived.Lib.SplitLaws
import Derived.Laws.NewBlocks
import Derived.Lib.SmallJoins
import Derived.Deep.Slices
import Derived.Deep.Strs
import Derived.OpenShut
import Derived.ArgAppend
import Derived.Laws.AppendOwnNone
import Derived.Test.YtgepcbggkfjlgaaGreatDoorM01
import Derived.Test.YtgepcbggkfjlgaaGreatDoorM02
import Derived.Test.YtgepcbggkfjlgaaGreatDoorM03
import Derived.Test.YtgepcbggkfjlgaaGreatDoorM05
import Derived.Test.YtgepcbggkfjlgaaGreatDoorM06

section
/-
  Pieces between bytes: strings.Split, strings.Join at one byte, and what they undo of one another. Condition: strings of at most 1100000 bytes, lists of at most 1000.
-/
set_option maxRecDepth 100000
set_option maxRecDepth 100000
set_option linter.unusedVariables false
set_option linter.unusedSimpArgs false
set_option linter.unnecessarySimpa false
namespace Go.Proofs.YtgepcbggkfjlgaaGreatDoor
open Go.RowKit Go.PlainAid
theorem heap_cell {W : World} {b i : Nat} {c : Array Value} {t : TypeId} {v : Value} (h : W.heap[b]? = some (.cells c t)) (hv : c[i]? = some v) : W.cell? ⟨b, i, none⟩ = some v := by
  simp [World.cell?, h, hv]
def joinB (sep : UInt8) (l : List ByteArray) : ByteArray := ⟨(Lib.join (l.map (·.data.toList)) [sep]).toArray⟩
theorem join_le (sep : UInt8) (M : Nat) : ∀ l : List (List UInt8), (∀ x ∈ l, x.length ≤ M) → (Lib.join l [sep]).length ≤ l.length * (M + 1)
  | [], _ => by simp [Lib.join]
  | [x], h => by
    have := h x (List.mem_singleton.2 rfl)
    simp [Lib.join]; omega
  | x :: y :: r, h => by
    have h1 := h x (List.mem_cons_self ..)
    have ih := join_le sep M (y :: r) (fun z hz => h z (List.mem_cons_of_mem _ hz))
    have e : Lib.join (x :: y :: r) [sep] = x ++ [sep] ++ Lib.join (y :: r) [sep] := by simp [Lib.join]
    have e2 : (x :: y :: r).length * (M + 1) = (y :: r).length * (M + 1) + (M + 1) := by rw [List.length_cons, Nat.succ_mul]
    rw [e, List.length_append, List.length_append, e2]
    show x.length + 1 + (Lib.join (y :: r) [sep]).length ≤ _
    omega
theorem joinF_s (sep : UInt8) (ao : Option Addr) (n cap : Nat) (l : List ByteArray) (w : World) (h : StrsAt w ao n cap l) (hn : 0 < n) (hl : n ≤ 1000) (hz : ∀ s ∈ l, s.size ≤ 1000000000) :
    Calls Tryz.prog 75 #[.slice ao n cap, .string ⟨#[sep]⟩] w fun e w' => e = .returned (.string (joinB sep l)) ∧ Below w.heap.size w w' := by
  obtain ⟨h1, h2, h3, h4⟩ := h
  subst h1
  obtain ⟨b, off, rfl, hb, hc⟩ := h4 hn
  refine Tryz.strings_Join b off cap l ⟨#[sep]⟩ w (fun j x hj => ?_) hb (by omega) h2 ?_
  · obtain ⟨hj1, hj2⟩ := List.getElem?_eq_some_iff.1 hj
    have := hc j hj1
    unfold partAt at this
    rw [List.getD_eq_getElem?_getD, List.getElem?_eq_getElem hj1, hj2] at this
    exact this
  · have := join_le sep 1000000000 (l.map (·.data.toList)) (fun x hx => by
      obtain ⟨s, hs, rfl⟩ := List.mem_map.1 hx
      have := hz s hs
      rw [← Lib.size_eq]; exact this)
    rw [List.length_map] at this
    have h5 : l.length * (1000000000 + 1) ≤ 1000 * 1000000001 := Nat.mul_le_mul_right _ hl
    show (Lib.join (l.map (·.data.toList)) [sep]).length ≤ 140737488355328
    omega
theorem joinB_size {sep : UInt8} {l : List ByteArray} (hl : l.length ≤ 1000) (hz : ∀ s ∈ l, s.size ≤ 1000000000) : (joinB sep l).size ≤ 1000000001000 := by
  have := join_le sep 1000000000 (l.map (·.data.toList)) (fun x hx => by
    obtain ⟨s, hs, rfl⟩ := List.mem_map.1 hx
    have := hz s hs
    rw [← Lib.size_eq]; exact this)
  rw [List.length_map] at this
  have h5 : l.length * (1000000000 + 1) ≤ 1000 * 1000000001 := Nat.mul_le_mul_right _ hl
  unfold joinB
  rw [Lib.size_mk]; omega
theorem joinB_le {sep : UInt8} {l : List ByteArray} {M : Nat} (hz : ∀ s ∈ l, s.size ≤ M) : (joinB sep l).size ≤ l.length * (M + 1) := by
  have := join_le sep M (l.map (·.data.toList)) (fun x hx => by
    obtain ⟨s, hs, rfl⟩ := List.mem_map.1 hx
    have := hz s hs
    rw [← Lib.size_eq]; exact this)
  rw [List.length_map] at this
  unfold joinB
  rw [Lib.size_mk]; exact this
def partsB (sep : UInt8) (s : ByteArray) : List ByteArray := Lib.splitB ⟨#[sep]⟩ 0 (Lib.countB s ⟨#[sep]⟩) s
theorem split_small (sep : ByteArray) : ∀ (k : Nat) (s x : ByteArray), x ∈ Lib.splitB sep 0 k s → x.size ≤ s.size
  | 0, s, x, h => by rw [List.mem_singleton.1 h]; exact Nat.le_refl _
  | k + 1, s, x, h => by
    unfold Lib.splitB at h
    split at h
    · rw [List.mem_singleton.1 h]; exact Nat.le_refl _
    · rcases List.mem_cons.1 h with h | h
      · rw [h, ByteArray.size_extract]; omega
      · have := split_small sep k _ x h
        rw [ByteArray.size_extract] at this; omega
theorem partsB_small {sep : UInt8} {s x : ByteArray} (h : x ∈ partsB sep s) : x.size ≤ s.size := split_small _ _ _ _ h
theorem partsB_len (sep : UInt8) (s : ByteArray) : (partsB sep s).length = Lib.countB s ⟨#[sep]⟩ + 1 := Lib.splitB_all ⟨#[sep]⟩ (Nat.le_refl 1) 0 _ s rfl
theorem partsB_le (sep : UInt8) (s : ByteArray) : (partsB sep s).length ≤ s.size + 1 := by
  rw [partsB_len]
  have := Lib.countB_le ⟨#[sep]⟩ (Nat.le_refl 1) s.size s (Nat.le_refl _)
  omega
theorem splitF_s (sep : UInt8) (s : ByteArray) (w : World) (hs : s.size ≤ 1100000) (hm : MaxOk w) :
    Calls Tryz.prog 80 #[.string s, .string ⟨#[sep]⟩] w fun e w' => e = .returned (.slice (some ⟨w.heap.size, 0, none⟩) (partsB sep s).length (partsB sep s).length) ∧ StrsAt w' (some ⟨w.heap.size, 0, none⟩) (partsB sep s).length (partsB sep s).length (partsB sep s) ∧ Below w.heap.size w w' := by
  obtain ⟨m, hm⟩ := hm
  refine (Tryz.strings_Split s ⟨#[sep]⟩ m w (by omega) hm (Nat.le_refl 1)).mono ?_
  rintro e w' ⟨rfl, rfl⟩
  have hle := partsB_le sep s
  refine ⟨by rw [partsB_len], ⟨rfl, Nat.le_refl _, by unfold maxLen; omega, fun hn => ⟨_, 0, rfl, by simp, fun j hj => ?_⟩⟩, (Below.refl _ _).alloc (Nat.le_refl _) _⟩
  have h : (w.alloc (.cells ((partsB sep s).map Value.string).toArray 9)).heap[w.heap.size]? = some (.cells ((partsB sep s).map Value.string).toArray 9 (0, 0)) := heap_alloc_new w _
  refine heap_cell (W := w.alloc (.cells ((partsB sep s).map Value.string).toArray 9)) h ?_
  rw [Nat.zero_add, List.getElem?_toArray, List.getElem?_map, List.getElem?_eq_getElem hj]
  unfold partAt
  rw [List.getD_eq_getElem?_getD, List.getElem?_eq_getElem hj]; rfl
theorem pc_ne (c : UInt8) (l : List UInt8) : pieces c l ≠ [] := by
  cases l with
  | nil => simp [pieces]
  | cons x r =>
    unfold pieces
    split
    · simp
    · split <;> simp
theorem pc_app (c : UInt8) (y : List UInt8) : ∀ x : List UInt8, c ∉ x → pieces c (x ++ c :: y) = x :: pieces c y
  | [], _ => by show pieces c (c :: y) = _; conv => lhs; unfold pieces; rw [if_pos rfl]
  | a :: x, h => by
    have ha : a ≠ c := fun e => h (by rw [e]; simp)
    have ih := pc_app c y x (fun k => h (by simp [k]))
    show pieces c (a :: (x ++ c :: y)) = _
    conv => lhs; unfold pieces
    rw [if_neg ha, ih]
theorem pc_none (c : UInt8) (x : List UInt8) (h : c ∉ x) : pieces c x = [x] := pieces_miss c x (fun j hj => h (List.mem_of_getElem? hj))
theorem pc_free (c : UInt8) : ∀ l : List UInt8, ∀ p ∈ pieces c l, c ∉ p
  | [], p, hp => by simp [pieces] at hp; rw [hp]; simp
  | a :: r, p, hp => by
    have ih := pc_free c r
    unfold pieces at hp
    split at hp
    · rcases List.mem_cons.1 hp with h | h
      · rw [h]; simp
      · exact ih p h
    · rename_i hne
      split at hp
      · rename_i q qs e
        rw [e] at ih
        rcases List.mem_cons.1 hp with h | h
        · rw [h]; intro k
          rcases List.mem_cons.1 k with k | k
          · exact hne k.symm
          · exact ih q (by simp) k
        · exact ih p (by simp [h])
      · rename_i e; exact absurd e (pc_ne c r)
theorem join_two (x y : List UInt8) (r : List (List UInt8)) (c : UInt8) : Lib.join (x :: y :: r) [c] = x ++ c :: Lib.join (y :: r) [c] := by
  rw [Lib.join_cons, Lib.join_cons]; simp [Lib.joinTail]
theorem pc_join (c : UInt8) : ∀ ps : List (List UInt8), ps ≠ [] → (∀ p ∈ ps, c ∉ p) → pieces c (Lib.join ps [c]) = ps
  | [], h, _ => absurd rfl h
  | [x], _, h => by rw [Lib.join_one]; exact pc_none c x (h x (by simp))
  | x :: y :: r, _, h => by
    rw [join_two, pc_app c _ x (h x (by simp)), pc_join c (y :: r) (by simp) (fun p hp => h p (by simp [hp]))]
theorem join_pc (c : UInt8) : ∀ l : List UInt8, Lib.join (pieces c l) [c] = l
  | [] => by simp [pieces, Lib.join_one]
  | a :: r => by
    have ih := join_pc c r
    unfold pieces
    split
    · rename_i e
      cases hp : pieces c r with
      | nil => exact absurd hp (pc_ne c r)
      | cons q qs => rw [hp] at ih; rw [join_two, ih, e]; rfl
    · split
      · rename_i q qs e
        rw [e] at ih
        rw [Lib.join_cons] at ih ⊢
        rw [List.cons_append, ih]
      · rename_i e; exact absurd e (pc_ne c r)
theorem splitB_pc (c : UInt8) : ∀ (n : Nat) (s : ByteArray), s.size ≤ n → (Lib.splitB ⟨#[c]⟩ 0 (Lib.countB s ⟨#[c]⟩) s).map (·.data.toList) = pieces c s.data.toList := by
  intro n
  induction n with
  | zero =>
    intro s hs
    have h0 : s.data.toList = [] := List.length_eq_zero_iff.1 (by rw [← Lib.size_eq]; omega)
    have hi : Lib.indexB s ⟨#[c]⟩ = -1 := by
      rcases Lib.index_spec s.data.toList [c] with ⟨hi, _⟩ | ⟨i, _, hle, ho, _⟩
      · exact hi
      · have hg := (occ_one _ _ _).1 ho
        rw [h0] at hg; simp at hg
    rw [Lib.splitB_miss _ _ _ _ hi, h0]
    simp [pieces, h0]
  | succ n ih =>
    intro s hs
    rcases Lib.index_spec s.data.toList [c] with ⟨hi, hn⟩ | ⟨i, hi, hle, ho, hno⟩
    · have hi' : Lib.indexB s ⟨#[c]⟩ = -1 := hi
      rw [Lib.splitB_miss _ _ _ _ hi', pieces_miss c s.data.toList (fun j hj => by
        have hlt : j < s.data.toList.length := (List.getElem?_eq_some_iff.1 hj).1
        have := hn j (by omega)
        rw [(occ_one _ _ _).2 hj] at this
        cases this)]
      rfl
    · have hi' : Lib.indexB s ⟨#[c]⟩ = i := hi
      have hget := (occ_one _ _ _).1 ho
      have hlt : i < s.data.toList.length := (List.getElem?_eq_some_iff.1 hget).1
      have hno' : ∀ j, j < i → s.data.toList[j]? ≠ some c := fun j hj h => by
        have := hno j hj
        rw [(occ_one _ _ _).2 h] at this
        cases this
      have h1 : (⟨#[c]⟩ : ByteArray).size = 1 := rfl
      rw [Lib.countB_hit s ⟨#[c]⟩ i (by rw [h1]; exact Nat.le_refl _) hi', Nat.add_comm, Lib.splitB_hit _ _ _ _ i hi', List.map_cons, h1]
      have hsz := Lib.size_eq s
      have hr := ih (s.extract (i + 1) s.size) (by rw [Lib.size_eq, Lib.extract_to_end, List.length_drop]; omega)
      rw [hr, pieces_hit c _ i hget hno', Lib.extract_to_end, Lib.extract_from_zero, Nat.add_zero]
theorem partsB_pc (c : UInt8) (s : ByteArray) : (partsB c s).map (·.data.toList) = pieces c s.data.toList := splitB_pc c _ s (Nat.le_refl _)
theorem parts_ofL (c : UInt8) (s : ByteArray) : partsB c s = (pieces c s.data.toList).map ofL := by
  rw [← partsB_pc, List.map_map]
  conv => lhs; rw [← List.map_id (partsB c s)]
  exact List.map_congr_left fun x _ => (Lib.mk_data x).symm
theorem map_inj {a b : List ByteArray} (h : a.map (·.data.toList) = b.map (·.data.toList)) : a = b := by
  have : ∀ x : List ByteArray, x.map (fun s => ofL s.data.toList) = x := fun x => by
    conv => rhs; rw [← List.map_id x]
    exact List.map_congr_left (fun s _ => Lib.mk_data s)
  have h2 := congrArg (List.map ofL) h
  rw [List.map_map, List.map_map] at h2
  have e1 := this a
  have e2 := this b
  rw [← e1, ← e2]
  exact h2
/-- split of a join, join of a split -/
theorem parts_join {c : UInt8} {l : List ByteArray} (hl : l ≠ []) (h : ∀ s ∈ l, c ∉ s.data.toList) : partsB c (joinB c l) = l := by
  refine map_inj ?_
  rw [partsB_pc]
  show pieces c (Lib.join (l.map (·.data.toList)) [c]) = _
  exact pc_join c _ (by simpa using hl) (fun p hp => by obtain ⟨s, hs, rfl⟩ := List.mem_map.1 hp; exact h s hs)
theorem join_parts (c : UInt8) (s : ByteArray) : joinB c (partsB c s) = s := by
  unfold joinB
  rw [partsB_pc, join_pc]
theorem join_free {c b : UInt8} (hb : c ≠ b) : ∀ ps : List (List UInt8), (∀ p ∈ ps, c ∉ p) → c ∉ Lib.join ps [b]
  | [], _ => by rw [Lib.join_nil]; simp
  | [x], h => by rw [Lib.join_one]; exact h x (by simp)
  | x :: y :: r, h => by
    rw [join_two]
    intro k
    rcases List.mem_append.1 k with k | k
    · exact h x (by simp) k
    · rcases List.mem_cons.1 k with k | k
      · exact hb k
      · exact join_free hb (y :: r) (fun p hp => h p (by simp [hp])) k
theorem joinB_free {c b : UInt8} (hb : c ≠ b) {l : List ByteArray} (h : ∀ s ∈ l, c ∉ s.data.toList) : c ∉ (joinB b l).data.toList :=
  join_free hb _ (fun p hp => by obtain ⟨s, hs, rfl⟩ := List.mem_map.1 hp; exact h s hs)
theorem cut_mk (x y : List UInt8) (b : UInt8) (hx : b ∉ x) : cutOk (ofL (x ++ b :: y)) ⟨#[b]⟩ = true ∧ cutBef (ofL (x ++ b :: y)) ⟨#[b]⟩ = ofL x ∧ cutAft (ofL (x ++ b :: y)) ⟨#[b]⟩ = ofL y := by
  have e0 : (ofL (x ++ b :: y)).data.toList = x ++ b :: y := rfl
  have hp := pc_app b y x hx
  rcases cut_one (ofL (x ++ b :: y)) b with k | k
  · have k2 := k.2.1
    rw [e0, hp] at k2
    injection k2 with h1 h2
    refine ⟨k.1, ?_, ?_⟩
    · exact (Lib.mk_data _).symm.trans (congrArg ofL h1.symm)
    · have h3 := (join_pc b (cutAft (ofL (x ++ b :: y)) ⟨#[b]⟩).data.toList).symm.trans ((congrArg (fun p => Lib.join p [b]) h2.symm).trans (join_pc b y))
      exact (Lib.mk_data _).symm.trans (congrArg ofL h3)
  · have k2 := k.2.1
    rw [e0, hp] at k2
    injection k2 with h1 h2
    exact absurd h2 (pc_ne b y)
theorem cut_split (t : ByteArray) (b : UInt8) (h : cutOk t ⟨#[b]⟩ = true) : t.data.toList = (cutBef t ⟨#[b]⟩).data.toList ++ b :: (cutAft t ⟨#[b]⟩).data.toList := by
  rcases cut_one t b with k | k
  · have h1 := join_pc b t.data.toList
    rw [k.2.1] at h1
    have h2 := join_pc b (cutAft t ⟨#[b]⟩).data.toList
    cases e : pieces b (cutAft t ⟨#[b]⟩).data.toList with
    | nil => exact absurd e (pc_ne b _)
    | cons q r =>
      rw [e] at h1 h2
      rw [← h1, join_two, h2]
  · rw [k.1] at h; cases h
theorem parts_cut {s : ByteArray} {c : UInt8} (h : cutOk s ⟨#[c]⟩ = true) : partsB c s = cutBef s ⟨#[c]⟩ :: partsB c (cutAft s ⟨#[c]⟩) := by
  rw [parts_ofL, parts_ofL]
  rcases cut_one s c with ⟨_, h2⟩ | ⟨h1, _⟩
  · rw [h2.1, List.map_cons]
    congr 1
  · rw [h1] at h; cases h
theorem parts_uncut {s : ByteArray} {c : UInt8} (h : cutOk s ⟨#[c]⟩ ≠ true) : partsB c s = [s] := by
  rw [parts_ofL]
  rcases cut_one s c with ⟨h1, _⟩ | ⟨_, h2⟩
  · exact absurd h1 h
  · rw [h2.1, List.map_cons, List.map_nil]; congr 1
theorem parts_ne (c : UInt8) (s : ByteArray) : partsB c s ≠ [] := by
  rw [parts_ofL]
  intro e
  exact pc_ne c _ (List.map_eq_nil_iff.1 e)

end Go.Proofs.YtgepcbggkfjlgaaGreatDoor
end

section
/-
  Boxes: what a block holds, kept while the world grows above it. No condition.
-/
set_option linter.unusedVariables false
set_option linter.unusedSimpArgs false
set_option linter.unnecessarySimpa false
namespace Go.Proofs.YtgepcbggkfjlgaaGreatDoor
open Go.RowKit Go.PlainAid

def KbC (W : World) (b : Nat) (o : Obj) : Prop := W.heap[b]? = some o
theorem KbC.big {W : World} {b : Nat} {o : Obj} (h : KbC W b o) : b < W.heap.size := by
  rcases Nat.lt_or_ge b W.heap.size with k | k
  · exact k
  · unfold KbC at h; rw [Array.getElem?_eq_none k] at h; cases h
theorem KbC.step {W V : World} {b : Nat} {o : Obj} (h : KbC W b o) (hb : Below W.heap.size W V) : KbC V b o := (hb.block b h.big).trans h
theorem KbC.keep {W V : World} {b B : Nat} {o : Obj} (h : KbC W b o) (hb : Below B W V) (hB : b < B) : KbC V b o := (hb.block b hB).trans h
theorem kbc_new (W : World) (o : Obj) : KbC (W.alloc o) W.heap.size o := heap_alloc_new W o
theorem KbC.cell {W : World} {b i : Nat} {c : Array Value} {t : TypeId} {v : Value} (h : KbC W b (.cells c t)) (hv : c[i]? = some v) : W.cell? ⟨b, i, none⟩ = some v := by
  unfold World.cell?
  rw [show W.heap[b]? = some (.cells c t) from h]
  exact hv
theorem KbC.frz {W : World} {b i : Nat} {c : Array Value} {t : TypeId} (h : KbC W b (.cells c t)) : W.frozen? ⟨b, i, none⟩ = false := by
  have h : W.heap[b]? = some (.cells c t) := h
  simp [World.frozen?, h]
theorem KbC.set {W : World} {b i : Nat} {c : Array Value} {t : TypeId} (h : KbC W b (.cells c t)) (v : Value) : KbC (W.setCell ⟨b, i, none⟩ v) b (.cells (c.setIfInBounds i v) t) := by
  have h0 : W.heap[b]? = some (.cells c t) := h
  unfold KbC World.setCell
  rw [Array.getElem?_modify, h0]
  simp
theorem box_below (w : World) (o : Obj) : Below w.heap.size w (w.alloc o) := (Below.refl w.heap.size w).alloc (Nat.le_refl _) o
end Go.Proofs.YtgepcbggkfjlgaaGreatDoor
end

section
/-
  Keys as they lie in memory: a box, a slice that is read, a slice of the call's own that grows, and what came in. Condition: at most 1000000000 keys.
-/
set_option maxRecDepth 100000
set_option linter.unusedVariables false
set_option linter.unusedSimpArgs false
set_option linter.unnecessarySimpa false
namespace Go.Proofs.YtgepcbggkfjlgaaGreatDoor
open Go.RowKit Go.PlainAid Go.ChangeShapes Go.WideShapes Go.ChangeAt

structure Ky where
  id : ByteArray
  sec : ByteArray
  sf : Int
  su : Int
  af : Int
  au : Int
theorem Ky.ext' {g h : Ky} (h0 : g.id = h.id) (h1 : g.sec = h.sec) (h2 : g.sf = h.sf) (h3 : g.su = h.su) (h4 : g.af = h.af) (h5 : g.au = h.au) : g = h := by
  cases g; cases h; simp only at h0 h1 h2 h3 h4 h5; subst h0 h1 h2 h3 h4 h5; rfl
instance : DecidableEq Ky := fun g h => decidable_of_iff (g.id = h.id ∧ g.sec = h.sec ∧ g.sf = h.sf ∧ g.su = h.su ∧ g.af = h.af ∧ g.au = h.au)
  ⟨fun ⟨h0, h1, h2, h3, h4, h5⟩ => Ky.ext' h0 h1 h2 h3 h4 h5, fun e => by rw [e]; exact ⟨rfl, rfl, rfl, rfl, rfl, rfl⟩⟩
def kZ : Ky := ⟨⟨#[]⟩, ⟨#[]⟩, 0, 0, 0, 0⟩
def kcells (g : Ky) : List Value := [.string g.id, .string g.sec, .int .i64 g.sf, .int .i64 g.su, .int .i64 g.af, .int .i64 g.au]
def kV (g : Ky) : Value := .agg (kcells g).toArray
def kB (g : Ky) : Obj := .cells (kcells g).toArray 31
def kA (l : List Ky) (j : Nat) : Ky := l.getD j kZ
theorem k_get {l : List Ky} {j : Nat} (h : j < l.length) : kA l j = l[j] := by unfold kA; rw [List.getD_eq_getElem?_getD, List.getElem?_eq_getElem h]; rfl
theorem k_mem {l : List Ky} {j : Nat} (h : j < l.length) : kA l j ∈ l := by rw [k_get h]; exact List.getElem_mem h
theorem take_k (l : List Ky) (k : Nat) (h : k < l.length) : l.take (k + 1) = l.take k ++ [kA l k] := by
  rw [List.take_add_one, List.getElem?_eq_getElem h, k_get h]; rfl
theorem ks_ext {ps qs : List Ky} (hl : ps.length = qs.length) (h : ∀ j, j < ps.length → kA ps j = kA qs j) : ps = qs := by
  apply List.ext_getElem hl
  intro j h1 h2
  have := h j h1
  rwa [k_get h1, k_get h2] at this
/-- the cells of one, at a place -/
structure AtK (w : World) (b o : Nat) (g : Ky) : Prop where
  c0 : w.cell? ⟨b, o, none⟩ = some (.string g.id)
  c1 : w.cell? ⟨b, o + 1, none⟩ = some (.string g.sec)
  c2 : w.cell? ⟨b, o + 2, none⟩ = some (.int .i64 g.sf)
  c3 : w.cell? ⟨b, o + 3, none⟩ = some (.int .i64 g.su)
  c4 : w.cell? ⟨b, o + 4, none⟩ = some (.int .i64 g.af)
  c5 : w.cell? ⟨b, o + 5, none⟩ = some (.int .i64 g.au)
theorem AtK.below {w w' : World} {b o : Nat} {g : Ky} (h : AtK w b o g) {B : Nat} (hb : Below B w w') (hB : b < B) : AtK w' b o g :=
  ⟨(hb.cell (p := ⟨b, o, none⟩) hB).trans h.c0, (hb.cell (p := ⟨b, o + 1, none⟩) hB).trans h.c1, (hb.cell (p := ⟨b, o + 2, none⟩) hB).trans h.c2, (hb.cell (p := ⟨b, o + 3, none⟩) hB).trans h.c3, (hb.cell (p := ⟨b, o + 4, none⟩) hB).trans h.c4, (hb.cell (p := ⟨b, o + 5, none⟩) hB).trans h.c5⟩
theorem AtK.of_box {W : World} {b : Nat} {g : Ky} (h : KbC W b (kB g)) : AtK W b 0 g :=
  ⟨h.cell rfl, h.cell rfl, h.cell rfl, h.cell rfl, h.cell rfl, h.cell rfl⟩
theorem AtK.of_at {w : World} {b o : Nat} {g : Ky} (h : ∀ k, k < 6 → w.cell? ⟨b, o + k, none⟩ = (kcells g)[k]?) : AtK w b o g :=
  ⟨h 0 (by omega), h 1 (by omega), h 2 (by omega), h 3 (by omega), h 4 (by omega), h 5 (by omega)⟩
theorem kcells_len (g : Ky) : (kcells g).length = 6 := rfl
def IsKs (w : World) (b off : Nat) (ps : List Ky) : Prop :=
  b < w.heap.size ∧ ∀ j, j < ps.length → ∀ k, k < 6 → w.cell? ⟨b, off + j * 6 + k, none⟩ = (kcells (kA ps j))[k]?
theorem IsKs.below {w w' : World} {b off : Nat} {ps : List Ky} (h : IsKs w b off ps) {B : Nat} (hb : Below B w w') (hB : b < B) : IsKs w' b off ps :=
  ⟨Nat.lt_of_lt_of_le h.1 hb.size, fun j hj k hk => by rw [hb.cell (p := ⟨b, off + j * 6 + k, none⟩) hB]; exact h.2 j hj k hk⟩
theorem IsKs.at_ {w : World} {b off : Nat} {ps : List Ky} (h : IsKs w b off ps) {j : Nat} (hj : j < ps.length) : AtK w b (off + j * 6) (kA ps j) := .of_at (h.2 j hj)
def KsAt (w : World) (ao : Option Addr) (n cap : Nat) (ps : List Ky) : Prop :=
  ps.length = n ∧ n ≤ cap ∧ cap ≤ maxLen ∧ (0 < n → ∃ b off, ao = some ⟨b, off, none⟩ ∧ IsKs w b off ps) ∧ (ao = none → cap = 0)
theorem KsAt.below {w w' : World} {ao : Option Addr} {n cap : Nat} {ps : List Ky} (h : KsAt w ao n cap ps) (hb : Below w.heap.size w w') : KsAt w' ao n cap ps :=
  ⟨h.1, h.2.1, h.2.2.1, fun hn => by
    obtain ⟨b, off, e, hi⟩ := h.2.2.2.1 hn
    exact ⟨b, off, e, hi.below hb hi.1⟩, h.2.2.2.2⟩
theorem ks_nil (w : World) : KsAt w none 0 0 [] := ⟨rfl, Nat.le_refl _, by unfold maxLen; omega, fun h => absurd h (Nat.lt_irrefl _), fun _ => rfl⟩
def kcs (l : List Ky) : List Value := l.flatMap kcells
theorem kcs_app (l m : List Ky) : kcs (l ++ m) = kcs l ++ kcs m := by simp [kcs]
theorem kcs_len : ∀ l : List Ky, (kcs l).length = l.length * 6
  | [] => rfl
  | q :: l => by
    have h := kcs_len l
    have e : kcs (q :: l) = kcells q ++ kcs l := rfl
    rw [e, List.length_append, h, kcells_len, List.length_cons]; omega
theorem kcs_at : ∀ (l : List Ky) (j k : Nat), j < l.length → k < 6 → (kcs l)[j * 6 + k]? = (kcells (kA l j))[k]?
  | [], j, k, h, _ => absurd h (Nat.not_lt_zero _)
  | q :: l, 0, k, h, hk => by
    have e : kcs (q :: l) = kcells q ++ kcs l := rfl
    rw [e, Nat.zero_mul, Nat.zero_add, List.getElem?_append_left (by rw [kcells_len]; exact hk)]; rfl
  | q :: l, j + 1, k, h, hk => by
    have := kcs_at l j k (by simpa using h) hk
    have e : kcs (q :: l) = kcells q ++ kcs l := rfl
    rw [e, List.getElem?_append_right (by rw [kcells_len]; omega), kcells_len, show (j + 1) * 6 + k - 6 = j * 6 + k by omega, this]; rfl
theorem kcs_one (l : List Ky) : ∀ u ∈ kcs l, u.oneCell' = true := by
  intro u hu
  obtain ⟨q, _, hp⟩ := List.mem_flatMap.1 hu
  simp [kcells] at hp
  rcases hp with rfl | rfl | rfl | rfl | rfl | rfl <;> rfl
theorem info_k : (Tryz.prog.info? 31).map (fun i => (i.zero, i.size, i.bytes)) = some (some (.agg #[.string ⟨#[]⟩, .string ⟨#[]⟩, .int .i64 0, .int .i64 0, .int .i64 0, .int .i64 0]), 6, 64) := by kernel_rfl
theorem k_parts {t : TypeId} {z : Value} {n b : Nat} (h : (Tryz.prog.info? t).map (fun i => (i.zero, i.size, i.bytes)) = some (some z, n, b)) : ∃ i, Tryz.prog.info? t = some i ∧ i.zero = some z ∧ i.size = n ∧ i.bytes = b := by
  cases hi : Tryz.prog.info? t with
  | none => rw [hi] at h; cases h
  | some i =>
    rw [hi] at h
    simp only [Option.map_some, Option.some.injEq, Prod.mk.injEq] at h
    exact ⟨i, rfl, h.1, h.2.1, h.2.2⟩
theorem ks_cells {w : World} {b off : Nat} {ps : List Ky} (h : IsKs w b off ps) : ∀ j u, (kcs ps)[j]? = some u → w.cell? ((⟨b, off, none⟩ : Addr).add j) = some u := by
  intro j u hj
  rw [WideShapes.add_plain]
  have hl : j < (kcs ps).length := by
    rcases Nat.lt_or_ge j (kcs ps).length with k | k
    · exact k
    · rw [List.getElem?_eq_none k] at hj; cases hj
  rw [kcs_len] at hl
  have hk := kcs_at ps (j / 6) (j % 6) (by omega) (by omega)
  have hc := h.2 (j / 6) (by omega) (j % 6) (by omega)
  rw [show j / 6 * 6 + j % 6 = j by omega] at hk
  rw [show off + j / 6 * 6 + j % 6 = off + j by omega, ← hk] at hc
  rw [hc]; exact hj
/-- 'l = append(l, gs...)' where l is the call's own -/
theorem app_ks {ops : Array Oper} {rest : List Oper} {o : Oper} {a : Act} {Q : Exit → Act → World → Prop} (wr : World) {base : Nat} {v : Value} {n : Nat} {xs : List Value} (hown : wr.ownsRow base 31 6 v n xs) (s x : Operand)
    (ao : Option Addr) (m c : Nat) (news : List Ky) (hgd : o.guard = none)
    (ho : o.op = .call { callee := .builtin .append, args := #[s, x], argTypes := #[22, 22] })
    (hs : a.eval s = v) (hx : a.eval x = .slice ao m c) (hw : KsAt wr ao m c news) (hn : n + m ≤ 1000000000) (hbase : base ≤ wr.heap.size)
    (h : ∀ v' w', w'.ownsRow base 31 6 v' (n + m) (xs ++ kcs news) → Below base wr w' → wpList Tryz.prog ops Q rest (a.put o.dst v') w') :
    wpList Tryz.prog ops Q (o :: rest) a wr := by
  obtain ⟨i0, hi, hz0, hz1, hz2⟩ := k_parts info_k
  obtain ⟨w1, w2, w3, w4, w5⟩ := hw
  cases ao with
  | none =>
    have hc := w5 rfl
    subst hc
    have hm : m = 0 := by omega
    subst hm
    have hnil : news = [] := List.length_eq_zero_iff.1 w1
    subst hnil
    refine wpList_append_own_none hgd s x 22 ho base 31 i0 6 Tryz.underlying22 hi v n xs hs hown hx ?_
    have := h v wr (by rw [show kcs [] = [] from rfl, List.append_nil]; exact hown) (Below.refl _ _)
    exact this
  | some ad =>
    have hnews : ∀ j u, (kcs news)[j]? = some u → wr.cell? (ad.add j) = some u := by
      rcases Nat.eq_zero_or_pos m with e | e
      · have hnil : news = [] := List.length_eq_zero_iff.1 (by omega)
        subst hnil
        intro j u hj; simp [kcs] at hj
      · obtain ⟨b, off, e2, hi2⟩ := w4 e
        cases e2
        exact ks_cells hi2
    refine wpList_append_own _ hgd s x 22 ho base 31 i0 (.agg #[.string ⟨#[]⟩, .string ⟨#[]⟩, .int .i64 0, .int .i64 0, .int .i64 0, .int .i64 0]) 6 64 Tryz.underlying22 hi hz0 hz1 hz2 rfl (by decide) v n xs hs hown ad m c (kcs news) hx (by rw [kcs_len, w1]) hnews
      (kcs_one _) (by unfold maxLen; omega) (by omega) hbase ?_
    intro v' w' h1 h2 _
    exact h v' w' h1 ((Below.refl base wr).grown h2 hbase (fun k hk => (hown.lt k hk).1))
theorem ks_of_owns {w : World} {base : Nat} {v : Value} {n : Nat} {ps : List Ky} (h : w.ownsRow base 31 6 v n (kcs ps)) : ∃ ao cap, v = .slice ao n cap ∧ KsAt w ao n cap ps := by
  have h0 := h
  obtain ⟨hl, ⟨rfl, hz⟩ | ⟨g, cap, cur, rfl, h2, h3, h4, h5, h6⟩⟩ := h
  · rw [kcs_len] at hl
    have hn : ps.length = n := by omega
    subst hz
    exact ⟨none, 0, rfl, hn, Nat.le_refl _, by unfold maxLen; omega, fun h => absurd h (Nat.lt_irrefl _), fun _ => rfl⟩
  · rw [kcs_len] at hl
    have hlen : ps.length = n := by omega
    refine ⟨some ⟨g, 0, none⟩, cap, rfl, hlen, h4, h5, fun _ => ⟨g, 0, rfl, (Array.getElem?_eq_some_iff.1 h3).1, fun j hj k hk => ?_⟩, fun e => (by cases e)⟩
    have hk2 := kcs_at ps j k hj hk
    obtain ⟨u, hu⟩ : ∃ u, (kcells (kA ps j))[k]? = some u := ⟨(kcells (kA ps j))[k]'(by rw [kcells_len]; exact hk), List.getElem?_eq_getElem _⟩
    rw [hu] at hk2 ⊢
    have := h0.cells rfl _ _ hk2
    rw [WideShapes.add_plain] at this
    rw [show 0 + j * 6 + k = 0 + (j * 6 + k) by omega]; exact this
theorem KsAt.empty {w : World} {ao : Option Addr} {cap : Nat} {ps : List Ky} (h : KsAt w ao 0 cap ps) : ps = [] := List.length_eq_zero_iff.1 h.1
theorem cells_k : Tryz.prog.cellsOf 31 = 6 := by kernel_rfl
theorem k_list2 {α : Type} {l : List α} (h : l.length = 2) : ∃ x0 x1, l = [x0, x1] := by
  match l, h with
  | [x0, x1], _ => exact ⟨x0, x1, rfl⟩
theorem k_list4 {α : Type} {l : List α} (h : l.length = 4) : ∃ x0 x1 x2 x3, l = [x0, x1, x2, x3] := by
  match l, h with
  | [x0, x1, x2, x3], _ => exact ⟨x0, x1, x2, x3, rfl⟩
theorem k_list6 {α : Type} {l : List α} (h : l.length = 6) : ∃ x0 x1 x2 x3 x4 x5, l = [x0, x1, x2, x3, x4, x5] := by
  match l, h with
  | [x0, x1, x2, x3, x4, x5], _ => exact ⟨x0, x1, x2, x3, x4, x5, rfl⟩
theorem cells_k_0 : Tryz.prog.cellsOf 29 = 2 := by kernel_rfl
/-- what came in: ints of the range, strings of a string's length -/
structure InK (g : Ky) : Prop where
  id : g.id.size ≤ maxLen
  sec : g.sec.size ≤ maxLen
  sf : -9223372036854775808 ≤ g.sf ∧ g.sf ≤ 9223372036854775807
  su : -9223372036854775808 ≤ g.su ∧ g.su ≤ 9223372036854775807
  af : -9223372036854775808 ≤ g.af ∧ g.af ≤ 9223372036854775807
  au : -9223372036854775808 ≤ g.au ∧ g.au ≤ 9223372036854775807
theorem k_range {n : Int} (h : (Lit.int .i64 n).wf = true) : -9223372036854775808 ≤ n ∧ n ≤ 9223372036854775807 := by
  unfold Lit.wf at h
  rw [Bool.and_eq_true, decide_eq_true_iff, decide_eq_true_iff] at h
  exact h
set_option maxHeartbeats 2000000 in
theorem k_open {H : Type} {enc : TypeId × Value → H} {W : World} {fuel : Nat} {cs : List Value} {x : DataW H × List MemPlace} (h : DataW.trod enc Tryz.prog W 0 (fun _ => true) true fuel 31 cs = some x) : ∃ g : Ky, cs = kcells g ∧ InK g := by
  obtain ⟨xs0, n0, _, rfl, hl0, hlen0, hf0⟩ := DataW.trod_struct Tryz.underlying31 h
  rw [cells_k] at hl0
  obtain ⟨a0, a1, a2, a3, a4, a5, rfl⟩ := k_list6 hl0
  obtain ⟨y0_0, y0_1, y0_2, y0_3, rfl⟩ := k_list4 hlen0
  have t0_0 : DataW.trod enc Tryz.prog W 0 (fun _ => true) true n0 9 [a0] = some y0_0 := hf0 0 _ rfl
  have t0_1 : DataW.trod enc Tryz.prog W 0 (fun _ => true) true n0 9 [a1] = some y0_1 := hf0 1 _ rfl
  have t0_2 : DataW.trod enc Tryz.prog W 0 (fun _ => true) true n0 29 [a2, a3] = some y0_2 := hf0 2 _ rfl
  have t0_3 : DataW.trod enc Tryz.prog W 0 (fun _ => true) true n0 29 [a4, a5] = some y0_3 := hf0 3 _ rfl
  obtain ⟨z0, q0, _, r0⟩ := DataW.trod_string Tryz.underlying9 t0_0
  obtain ⟨z1, q1, _, r1⟩ := DataW.trod_string Tryz.underlying9 t0_1
  obtain ⟨xs1, n1, _, rfl, hl1, hlen1, hf1⟩ := DataW.trod_struct Tryz.underlying29 t0_2
  obtain ⟨y1_0, y1_1, rfl⟩ := k_list2 hlen1
  have t1_0 : DataW.trod enc Tryz.prog W 0 (fun _ => true) true n1 3 [a2] = some y1_0 := hf1 0 _ rfl
  have t1_1 : DataW.trod enc Tryz.prog W 0 (fun _ => true) true n1 3 [a3] = some y1_1 := hf1 1 _ rfl
  obtain ⟨z2, q2, _, r2⟩ := DataW.trod_int Tryz.underlying3 t1_0
  obtain ⟨z3, q3, _, r3⟩ := DataW.trod_int Tryz.underlying3 t1_1
  obtain ⟨xs2, n2, _, rfl, hl2, hlen2, hf2⟩ := DataW.trod_struct Tryz.underlying29 t0_3
  obtain ⟨y2_0, y2_1, rfl⟩ := k_list2 hlen2
  have t2_0 : DataW.trod enc Tryz.prog W 0 (fun _ => true) true n2 3 [a4] = some y2_0 := hf2 0 _ rfl
  have t2_1 : DataW.trod enc Tryz.prog W 0 (fun _ => true) true n2 3 [a5] = some y2_1 := hf2 1 _ rfl
  obtain ⟨z4, q4, _, r4⟩ := DataW.trod_int Tryz.underlying3 t2_0
  obtain ⟨z5, q5, _, r5⟩ := DataW.trod_int Tryz.underlying3 t2_1
  simp only [List.cons.injEq, and_true] at q0 q1 q2 q3 q4 q5
  subst q0 q1 q2 q3 q4 q5
  exact ⟨⟨z0, z1, z2, z3, z4, z5⟩, rfl, ⟨r0, r1, k_range r2, k_range r3, k_range r4, k_range r5⟩⟩
set_option maxHeartbeats 2000000 in
/-- one that came in -/
theorem open_k {H : Type} {enc : TypeId × Value → H} {W : World} {base : Nat} {v : Value} {d : DataW H} {p : List MemPlace} (hval : Value.okWide Tryz.prog W .any base 31 v)
    (h0 : DataW.Trod enc Tryz.prog W 0 (fun _ => true) true 31 v d p) : ∃ g : Ky, v = kV g ∧ InK g := by
  obtain ⟨cs, rfl, hsz⟩ := okWide_struct Tryz.underlying31 hval
  obtain ⟨fuel, hf⟩ := h0
  obtain ⟨g, hg, hi⟩ := k_open hf
  refine ⟨g, ?_, hi⟩
  have : cs.toList = kcells g := hg
  unfold kV
  rw [← this]
theorem choose_ks {w : World} {b off len : Nat} (h : ∀ i, i < len → ∃ g : Ky, InK g ∧ ∀ k, k < 6 → w.cell? ⟨b, off + i * 6 + k, none⟩ = (kcells g)[k]?) :
    ∃ ps : List Ky, ps.length = len ∧ (∀ g ∈ ps, InK g) ∧ ∀ i, i < len → ∀ k, k < 6 → w.cell? ⟨b, off + i * 6 + k, none⟩ = (kcells (kA ps i))[k]? := by
  induction len with
  | zero => exact ⟨[], rfl, (fun g hg => by cases hg), fun i hi => absurd hi (Nat.not_lt_zero _)⟩
  | succ n ih =>
    obtain ⟨ps, hl, hin, hp⟩ := ih (fun i hi => h i (by omega))
    obtain ⟨g, hg, hc⟩ := h n (by omega)
    refine ⟨ps ++ [g], by simp [hl], fun x hx => ?_, fun i hi => ?_⟩
    · rcases List.mem_append.1 hx with hx | hx
      · exact hin x hx
      · rw [List.mem_singleton.1 hx]; exact hg
    · by_cases e : i = n
      · subst e
        have e2 : kA (ps ++ [g]) i = g := by
          unfold kA
          rw [List.getD_eq_getElem?_getD, List.getElem?_append_right (by omega), hl]; simp
        rw [e2]; exact hc
      · have e2 : kA (ps ++ [g]) i = kA ps i := by
          unfold kA
          rw [List.getD_eq_getElem?_getD, List.getD_eq_getElem?_getD, List.getElem?_append_left (by omega)]
        rw [e2]; exact hp i (by omega)
set_option maxHeartbeats 2000000 in
/-- a list that came in -/
theorem open_ks {H : Type} {enc : TypeId × Value → H} {W : World} {base : Nat} {v : Value} {d : DataW H} {p : List MemPlace} (hval : Value.okWide Tryz.prog W .any base 22 v)
    (h0 : DataW.Trod enc Tryz.prog W 0 (fun _ => true) true 22 v d p) : ∃ ao n cap ps, v = .slice ao n cap ∧ KsAt W ao n cap ps ∧ ∀ g ∈ ps, InK g := by
  obtain ⟨a0, len, cap, rfl⟩ := okWide_slice Tryz.underlying22 hval
  obtain ⟨fuel, hf⟩ := h0
  rcases Go.Deep.open_slice Tryz.underlying22 hf with ⟨hcs, hx⟩ | ⟨a, len', cap', m, n, D, Pl, hcs, _, hl, hm, hmm, hx, hcell⟩
  · simp [Value.cells] at hcs
    obtain ⟨rfl, rfl, rfl⟩ := hcs
    exact ⟨none, 0, 0, [], rfl, ks_nil W, fun g hg => by cases hg⟩
  · simp [Value.cells] at hcs
    obtain ⟨rfl, rfl, rfl⟩ := hcs
    simp only [if_true] at hmm
    rw [hmm] at hcell
    have each : ∀ i, i < len → ∃ g : Ky, InK g ∧ ∀ k, k < 6 → W.cell? (a.add (i * 6 + k)) = (kcells g)[k]? := by
      intro i hi
      obtain ⟨cs', h1, h2⟩ := hcell i (by omega)
      rw [cells_k] at h1
      obtain ⟨_, hlen, hc⟩ := World.cells?_some h1
      obtain ⟨g, rfl, hg⟩ := k_open h2
      refine ⟨g, hg, fun k hk => ?_⟩
      have e0 := hc k hk
      rw [Go.Deep.add_add] at e0
      rw [e0, List.getElem?_eq_getElem (by rw [kcells_len]; exact hk)]
    by_cases hn : 0 < len
    · obtain ⟨b, off, spot⟩ := a
      obtain ⟨g0, _, h1⟩ := each 0 hn
      have h1 := h1 0 (by decide)
      have h1 : W.cell? (Addr.add ⟨b, off, spot⟩ (0 * 6 + 0)) = some (.string g0.id) := h1
      have hspot : spot = none := by simpa [Addr.add] using World.cell?_spot h1
      subst hspot
      have hb : b < W.heap.size := by
        rw [add_plain] at h1
        exact World.block_lt_of_cell? W _ h1
      obtain ⟨ps, hpl, hin, hps⟩ := choose_ks (w := W) (b := b) (off := off) (len := len) (fun i hi => by
        obtain ⟨g, hg, hc⟩ := each i hi
        refine ⟨g, hg, fun k hk => ?_⟩
        have := hc k hk
        rw [add_plain, ← Nat.add_assoc] at this
        exact this)
      exact ⟨_, len, cap, ps, rfl, ⟨hpl, hl, hm, fun _ => ⟨b, off, rfl, hb, fun j hj => hps j (by omega)⟩, fun e => by cases e⟩, hin⟩
    · exact ⟨_, len, cap, [], rfl, ⟨by simp; omega, hl, hm, fun h => absurd h hn, fun e => by cases e⟩, fun g hg => by cases hg⟩

end Go.Proofs.YtgepcbggkfjlgaaGreatDoor
end

section
/-
  Pure values of layer keys: the errors of a ring, which key signs, which is accepted, rotation, gaps. Nothing of the program stands here. No condition.
-/
set_option maxRecDepth 100000
set_option linter.unusedVariables false
set_option linter.unusedSimpArgs false
set_option linter.unnecessarySimpa false
namespace Go.Proofs.YtgepcbggkfjlgaaGreatDoor
open Go.RowKit Go.PlainAid

/-- the first value that is not 0 among those of 0 to n - 1 -/
def firE (f : Nat → Int) : Nat → Int
  | 0 => 0
  | n + 1 => if firE f n = 0 then f n else firE f n
theorem firE_stay {f : Nat → Int} {z : Int} (hz : z ≠ 0) : ∀ {n m : Nat}, firE f n = z → n ≤ m → firE f m = z
  | n, 0, h, hm => by obtain rfl : n = 0 := by omega
                      exact h
  | n, m + 1, h, hm => by
    rcases Nat.lt_or_ge m n with k | k
    · obtain rfl : n = m + 1 := by omega
      exact h
    · unfold firE
      rw [firE_stay hz h k, if_neg hz]
theorem firE_hit {f : Nat → Int} {i n : Nat} {z : Int} (h0 : firE f i = 0) (hf : f i = z) (hz : z ≠ 0) (hi : i < n) : firE f n = z :=
  firE_stay hz (n := i + 1) (by unfold firE; rw [if_pos h0, hf]) hi
theorem firE_next {f : Nat → Int} {i : Nat} (h0 : firE f i = 0) (hf : f i = 0) : firE f (i + 1) = 0 := by unfold firE; rw [if_pos h0, hf]
theorem firE_zero {f : Nat → Int} : ∀ {n : Nat}, firE f n = 0 → ∀ i, i < n → f i = 0
  | 0, _, i, hi => absurd hi (Nat.not_lt_zero _)
  | n + 1, h, i, hi => by
    unfold firE at h
    split at h
    · next h0 =>
      rcases Nat.lt_or_ge i n with k | k
      · exact firE_zero h0 i k
      · obtain rfl : i = n := by omega
        exact h
    · next h0 => exact absurd h h0
theorem firE_all {f : Nat → Int} {n : Nat} (h : ∀ i, i < n → f i = 0) : firE f n = 0 := by
  induction n with
  | zero => rfl
  | succ n ih => unfold firE; rw [if_pos (ih fun i hi => h i (by omega)), h n (by omega)]
/-- the windows of a key are allowed -/
def winB (k : Ky) : Bool := decide (0 ≤ k.af) && decide (k.af ≤ k.sf) && decide (k.sf ≤ k.su) && decide (k.su ≤ k.au) && decide (k.au ≤ 1099511627776) && decide (k.af < k.au)
theorem winB_iff {k : Ky} : winB k = true ↔ 0 ≤ k.af ∧ k.af ≤ k.sf ∧ k.sf ≤ k.su ∧ k.su ≤ k.au ∧ k.au ≤ 1099511627776 ∧ k.af < k.au := by
  unfold winB
  simp only [Bool.and_eq_true, decide_eq_true_eq]
  exact ⟨fun ⟨⟨⟨⟨⟨h1, h2⟩, h3⟩, h4⟩, h5⟩, h6⟩ => ⟨h1, h2, h3, h4, h5, h6⟩, fun ⟨h1, h2, h3, h4, h5, h6⟩ => ⟨⟨⟨⟨⟨h1, h2⟩, h3⟩, h4⟩, h5⟩, h6⟩⟩
def hasI (p : List Ky) (id : ByteArray) : Bool := p.any fun q => decide (q.id = id)
theorem hasI_iff {p : List Ky} {id : ByteArray} : hasI p id = true ↔ ∃ j, j < p.length ∧ (kA p j).id = id := by
  unfold hasI
  rw [List.any_eq_true]
  constructor
  · rintro ⟨q, hq, e⟩
    obtain ⟨j, hj, rfl⟩ := List.mem_iff_getElem.1 hq
    exact ⟨j, hj, by rw [k_get hj]; exact of_decide_eq_true e⟩
  · rintro ⟨j, hj, e⟩
    exact ⟨kA p j, k_mem hj, decide_eq_true e⟩
/-- the error of an identifier and a secret that follow those of p -/
def nwE (p : List Ky) (id sec : ByteArray) : Int := if wordB id = false then 5 else if cleanB sec = false then 4 else if hasI p id = true then 7 else 0
def nxE (p : List Ky) (k : Ky) : Int := if nwE p k.id k.sec ≠ 0 then nwE p k.id k.sec else if winB k = true then 0 else 2
def errK (l : List Ky) (i : Nat) : Int := nxE (l.take i) (kA l i)
/-- the first error of a ring -/
def chkK (l : List Ky) : Int := if 16 < l.length then 3 else firE (errK l) l.length
theorem nwE_zero {p : List Ky} {id sec : ByteArray} (h : nwE p id sec = 0) : wordB id = true ∧ cleanB sec = true ∧ hasI p id = false := by
  unfold nwE at h
  cases h1 : wordB id
  · rw [h1, if_pos rfl] at h; exact absurd h (by decide)
  · cases h2 : cleanB sec
    · rw [h1, h2, if_neg (by decide), if_pos rfl] at h; exact absurd h (by decide)
    · cases h3 : hasI p id
      · exact ⟨rfl, rfl, rfl⟩
      · rw [h1, h2, h3, if_neg (by decide), if_neg (by decide), if_pos rfl] at h; exact absurd h (by decide)
theorem nwE_ok {p : List Ky} {id sec : ByteArray} (h1 : wordB id = true) (h2 : cleanB sec = true) (h3 : hasI p id = false) : nwE p id sec = 0 := by
  unfold nwE; rw [h1, h2, h3, if_neg (by decide), if_neg (by decide), if_neg (by decide)]
theorem nxE_zero {p : List Ky} {k : Ky} (h : nxE p k = 0) : wordB k.id = true ∧ cleanB k.sec = true ∧ hasI p k.id = false ∧ winB k = true := by
  unfold nxE at h
  split at h
  · next h1 => exact absurd h h1
  · next h1 =>
    have := nwE_zero (Classical.not_not.1 h1)
    split at h
    · next h2 => exact ⟨this.1, this.2.1, this.2.2, h2⟩
    · exact absurd h (by decide)
theorem nxE_ok {p : List Ky} {k : Ky} (h1 : wordB k.id = true) (h2 : cleanB k.sec = true) (h3 : hasI p k.id = false) (h4 : winB k = true) : nxE p k = 0 := by
  unfold nxE; rw [nwE_ok h1 h2 h3, if_neg (by decide), if_pos h4]
/-- a ring without error -/
structure OkK (l : List Ky) : Prop where
  len : l.length ≤ 16
  word : ∀ k ∈ l, wordB k.id = true
  cln : ∀ k ∈ l, cleanB k.sec = true
  win : ∀ k ∈ l, winB k = true
  one : l.Pairwise fun a b => a.id ≠ b.id
theorem hasI_take {l : List Ky} (h : ∀ i, i < l.length → hasI (l.take i) (kA l i).id = false) : l.Pairwise fun a b => a.id ≠ b.id := by
  rw [List.pairwise_iff_getElem]
  intro i j hi hj hij e
  have := h j hj
  have hh : hasI (l.take j) (kA l j).id = true := by
    rw [hasI_iff]
    refine ⟨i, by rw [List.length_take]; omega, ?_⟩
    rw [k_get (by rw [List.length_take]; omega), List.getElem_take, k_get hj]; exact e
  rw [hh] at this; cases this
theorem okK_of {l : List Ky} (h : chkK l = 0) : OkK l := by
  unfold chkK at h
  split at h
  · exact absurd h (by decide)
  · next hl =>
    have hz := firE_zero h
    have hx : ∀ i (hi : i < l.length), wordB (l[i]).id = true ∧ cleanB (l[i]).sec = true ∧ hasI (l.take i) (kA l i).id = false ∧ winB (l[i]) = true := fun i hi => by
      have := nxE_zero (hz i hi)
      rw [k_get hi] at this ⊢
      exact this
    refine ⟨by omega, fun k hk => ?_, fun k hk => ?_, fun k hk => ?_, hasI_take fun i hi => (hx i hi).2.2.1⟩
    · obtain ⟨i, hi, rfl⟩ := List.mem_iff_getElem.1 hk; exact (hx i hi).1
    · obtain ⟨i, hi, rfl⟩ := List.mem_iff_getElem.1 hk; exact (hx i hi).2.1
    · obtain ⟨i, hi, rfl⟩ := List.mem_iff_getElem.1 hk; exact (hx i hi).2.2.2
theorem chk_ok {l : List Ky} (h : OkK l) : chkK l = 0 := by
  unfold chkK
  rw [if_neg (by have := h.len; omega)]
  refine firE_all fun i hi => ?_
  unfold errK
  have hm := k_mem hi
  refine nxE_ok (h.word _ hm) (h.cln _ hm) ?_ (h.win _ hm)
  cases hh : hasI (l.take i) (kA l i).id
  · rfl
  · obtain ⟨j, hj, e⟩ := hasI_iff.1 hh
    rw [List.length_take] at hj
    rw [k_get (by rw [List.length_take]; omega), List.getElem_take, k_get hi] at e
    exact absurd e (List.pairwise_iff_getElem.1 h.one j i (by omega) hi (by omega))
/-! ### which key signs -/
/-- k comes after b, of two that sign -/
def gtK (k b : Ky) : Prop := b.sf < k.sf ∨ b.sf = k.sf ∧ 0 < Lib.compareBytes k.id.data.toList b.id.data.toList
instance (k b : Ky) : Decidable (gtK k b) := by unfold gtK; exact inferInstance
def bstK (now : Int) (o : Option Ky) (k : Ky) : Option Ky := if inW k.sf k.su now = true then (match o with
  | none => some k
  | some b => if gtK k b then some k else some b) else o
def sgnK (l : List Ky) (now : Int) : Option Ky := if chkK l = 0 then l.foldl (bstK now) none else none
/-- the key accepted under an identifier -/
def fndK (l : List Ky) (id : ByteArray) : Option Ky := l.find? fun k => decide (k.id = id)
def accK (l : List Ky) (id : ByteArray) (now skew : Int) : Ky × Int := match fndK l id with
  | none => (kZ, 26)
  | some k => if checkI k.af k.au now skew ≠ 0 then (kZ, checkI k.af k.au now skew) else (k, 0)
/-! ### Rotate, Prune -/
def cutK (t : Int) (k : Ky) : Ky := { k with su := max k.sf (min k.su t) }
def newK (id sec : ByteArray) (f u g : Int) : Ky := ⟨id, sec, f, u, f, addI u g⟩
def rotK (l : List Ky) (id sec : ByteArray) (now life grace : Int) : List Ky × Int :=
  if chkK l ≠ 0 then ([], chkK l) else if nwE l id sec ≠ 0 then ([], nwE l id sec) else if addI now life ≤ addI now 0 then ([], 2) else if 16 ≤ l.length then ([], 3)
  else (l.map (cutK (addI now 0)) ++ [newK id sec (addI now 0) (addI now life) grace], 0)
def pruK (l : List Ky) (now : Int) : List Ky := l.filter fun k => decide (addI now 0 < k.au)
end Go.Proofs.YtgepcbggkfjlgaaGreatDoor
end

section
/-
  Pure facts of layer keys: a key that signs is accepted; what rotation and pruning keep. Nothing of the program stands here. No condition.
-/
set_option maxRecDepth 100000
set_option linter.unusedVariables false
set_option linter.unusedSimpArgs false
set_option linter.unnecessarySimpa false
namespace Go.Proofs.YtgepcbggkfjlgaaGreatDoor
open Go.RowKit Go.PlainAid

theorem bst_out {t : Int} {o : Option Ky} {k : Ky} (h : inW k.sf k.su t = false) : bstK t o k = o := by unfold bstK; rw [h, if_neg (by decide)]
theorem fold_none {t : Int} : ∀ {l : List Ky} {o : Option Ky}, (∀ k ∈ l, inW k.sf k.su t = false) → l.foldl (bstK t) o = o
  | [], o, h => rfl
  | k :: l, o, h => by
    rw [List.foldl_cons, bst_out (h k (by simp)), fold_none fun x hx => h x (List.mem_cons_of_mem _ hx)]
theorem bst_cases (t : Int) (o : Option Ky) (k : Ky) : bstK t o k = o ∨ (bstK t o k = some k ∧ inW k.sf k.su t = true) := by
  unfold bstK
  split
  · next h =>
    cases o with
    | none => exact .inr ⟨rfl, h⟩
    | some b =>
      dsimp only
      split
      · exact .inr ⟨rfl, h⟩
      · exact .inl rfl
  · exact .inl rfl
theorem fold_mem {t : Int} : ∀ {l : List Ky} {o : Option Ky}, l.foldl (bstK t) o = o ∨ ∃ k ∈ l, l.foldl (bstK t) o = some k ∧ inW k.sf k.su t = true
  | [], o => .inl rfl
  | k :: l, o => by
    rw [List.foldl_cons]
    rcases fold_mem (t := t) (l := l) (o := bstK t o k) with h | ⟨x, hx, h1, h2⟩
    · rcases bst_cases t o k with q | ⟨q1, q2⟩
      · exact .inl (by rw [h, q])
      · exact .inr ⟨k, by simp, by rw [h, q1], q2⟩
    · exact .inr ⟨x, List.mem_cons_of_mem _ hx, h1, h2⟩
theorem fold_filter {t : Int} {p : Ky → Bool} : ∀ {l : List Ky} {o : Option Ky}, (∀ k ∈ l, inW k.sf k.su t = true → p k = true) → (l.filter p).foldl (bstK t) o = l.foldl (bstK t) o
  | [], o, h => rfl
  | k :: l, o, h => by
    have ih := fun o => fold_filter (t := t) (p := p) (l := l) (o := o) fun x hx => h x (List.mem_cons_of_mem _ hx)
    rw [List.foldl_cons]
    cases hp : p k
    · rw [List.filter_cons_of_neg (by rw [hp]; decide), ih, bst_out]
      cases hw : inW k.sf k.su t
      · rfl
      · rw [h k (by simp) hw] at hp; cases hp
    · rw [List.filter_cons_of_pos hp, List.foldl_cons, ih]
theorem sgn_mem {l : List Ky} {t : Int} {k : Ky} (h : sgnK l t = some k) : chkK l = 0 ∧ k ∈ l ∧ inW k.sf k.su t = true := by
  unfold sgnK at h
  split at h
  · next h0 =>
    rcases fold_mem (t := t) (l := l) (o := none) with q | ⟨x, hx, q1, q2⟩
    · rw [q] at h; cases h
    · rw [q1] at h
      obtain rfl := Option.some.inj h
      exact ⟨h0, hx, q2⟩
  · cases h
theorem inW_bd {a b t : Int} (h : inW a b t = true) : a ≤ limI t ∧ limI t < b := by
  unfold inW at h
  rwa [Bool.and_eq_true, decide_eq_true_eq, decide_eq_true_eq] at h
theorem fnd_mem {l : List Ky} {id : ByteArray} {k : Ky} (h : fndK l id = some k) : k ∈ l ∧ k.id = id := by
  unfold fndK at h
  have h2 := List.find?_some h
  exact ⟨List.mem_of_find?_eq_some h, by simpa using h2⟩
theorem id_one {l : List Ky} (h : l.Pairwise fun a b => a.id ≠ b.id) {a b : Ky} (ha : a ∈ l) (hb : b ∈ l) (e : a.id = b.id) : a = b := by
  obtain ⟨i, hi, rfl⟩ := List.mem_iff_getElem.1 ha
  obtain ⟨j, hj, rfl⟩ := List.mem_iff_getElem.1 hb
  have hp := List.pairwise_iff_getElem.1 h
  rcases Nat.lt_trichotomy i j with q | q | q
  · exact absurd e (hp i j hi hj q)
  · subst q; rfl
  · exact absurd e.symm (hp j i hj hi q)
theorem fnd_of {l : List Ky} (h : l.Pairwise fun a b => a.id ≠ b.id) {k : Ky} (hk : k ∈ l) : fndK l k.id = some k := by
  cases hf : fndK l k.id with
  | none =>
    unfold fndK at hf
    rw [List.find?_eq_none] at hf
    exact absurd (decide_eq_true rfl) (hf k hk)
  | some x =>
    obtain ⟨h1, h2⟩ := fnd_mem hf
    rw [id_one h h1 hk h2]
theorem fnd_none {l : List Ky} {id : ByteArray} (h : ∀ k ∈ l, k.id ≠ id) : fndK l id = none := by
  unfold fndK
  rw [List.find?_eq_none]
  intro x hx
  rw [decide_eq_false (h x hx)]; decide
theorem check_sign {k : Ky} {t s : Int} (hw : winB k = true) (h : inW k.sf k.su t = true) : checkI k.af k.au t s = 0 := by
  obtain ⟨w1, w2, w3, w4, w5, w6⟩ := winB_iff.1 hw
  obtain ⟨h1, h2⟩ := inW_bd h
  have hs : 0 ≤ skewI s := by unfold skewI; omega
  unfold checkI
  rw [if_neg (by omega), if_neg (by omega), if_neg (by omega)]
theorem acc_sign {l : List Ky} {t s : Int} {k : Ky} (h : sgnK l t = some k) : accK l k.id t s = (k, 0) := by
  obtain ⟨h0, h1, h2⟩ := sgn_mem h
  have ok := okK_of h0
  unfold accK
  rw [fnd_of ok.one h1]
  dsimp only
  rw [check_sign (ok.win k h1) h2, if_neg (by decide)]
/-! ### Rotate -/
theorem cut_win {k : Ky} {t : Int} (h : winB k = true) : winB (cutK t k) = true := by
  obtain ⟨w1, w2, w3, w4, w5, w6⟩ := winB_iff.1 h
  rw [winB_iff]
  unfold cutK
  dsimp only
  omega
theorem addI_ge (t d : Int) : limI t ≤ addI t d ∧ addI t d ≤ 1099511627776 := by
  have h1 := limI_bd t
  have h2 := limI_bd d
  have h3 := limI_bd (limI t + limI d)
  unfold addI
  refine ⟨?_, h3.2⟩
  unfold limI at *
  omega
theorem addI_zero (t : Int) : addI t 0 = limI t := by
  have := limI_bd t
  unfold addI
  rw [show limI 0 = 0 from rfl, Int.add_zero]
  unfold limI at this ⊢; omega
theorem limI_lim (t : Int) : limI (limI t) = limI t := by
  have := limI_bd t
  unfold limI at this ⊢; omega
theorem rot_ok {l m : List Ky} {id sec : ByteArray} {now life grace : Int} (h : rotK l id sec now life grace = (m, 0)) :
    chkK l = 0 ∧ nwE l id sec = 0 ∧ addI now 0 < addI now life ∧ l.length < 16 ∧ m = l.map (cutK (addI now 0)) ++ [newK id sec (addI now 0) (addI now life) grace] := by
  unfold rotK at h
  split at h
  · next q => exact absurd (Prod.mk.inj h).2 q
  · next q =>
    split at h
    · next q2 => exact absurd (Prod.mk.inj h).2 q2
    · next q2 =>
      split at h
      · exact absurd (Prod.mk.inj h).2 (by decide)
      · next q3 =>
        split at h
        · exact absurd (Prod.mk.inj h).2 (by decide)
        · next q4 => exact ⟨Classical.not_not.1 q, Classical.not_not.1 q2, by omega, by omega, (Prod.mk.inj h).1.symm⟩
theorem rot_err {l m : List Ky} {id sec : ByteArray} {now life grace z : Int} (h : rotK l id sec now life grace = (m, z)) (hz : z ≠ 0) : m = [] := by
  unfold rotK at h
  split at h
  · exact (Prod.mk.inj h).1.symm
  · split at h
    · exact (Prod.mk.inj h).1.symm
    · split at h
      · exact (Prod.mk.inj h).1.symm
      · split at h
        · exact (Prod.mk.inj h).1.symm
        · exact absurd (Prod.mk.inj h).2.symm hz
theorem rot_chk {l m : List Ky} {id sec : ByteArray} {now life grace : Int} (h : rotK l id sec now life grace = (m, 0)) : chkK m = 0 := by
  obtain ⟨h1, h2, h3, h4, rfl⟩ := rot_ok h
  have ok := okK_of h1
  obtain ⟨n1, n2, n3⟩ := nwE_zero h2
  refine chk_ok ⟨?_, fun k hk => ?_, fun k hk => ?_, fun k hk => ?_, ?_⟩
  · rw [List.length_append, List.length_map]; show l.length + 1 ≤ 16; omega
  · rcases List.mem_append.1 hk with hk | hk
    · obtain ⟨x, hx, rfl⟩ := List.mem_map.1 hk; exact ok.word x hx
    · rw [List.mem_singleton.1 hk]; exact n1
  · rcases List.mem_append.1 hk with hk | hk
    · obtain ⟨x, hx, rfl⟩ := List.mem_map.1 hk; exact ok.cln x hx
    · rw [List.mem_singleton.1 hk]; exact n2
  · rcases List.mem_append.1 hk with hk | hk
    · obtain ⟨x, hx, rfl⟩ := List.mem_map.1 hk; exact cut_win (ok.win x hx)
    · rw [List.mem_singleton.1 hk, winB_iff]
      unfold newK
      dsimp only
      have a1 := addI_ge now 0
      have a2 := addI_ge now life
      have a3 := addI_ge (addI now life) grace
      have a4 := limI_bd now
      have a5 : limI (addI now life) = addI now life := by unfold addI; exact limI_lim _
      have a6 := addI_zero now
      omega
  · rw [List.pairwise_append]
    refine ⟨?_, List.pairwise_singleton _ _, fun a ha b hb => ?_⟩
    · rw [List.pairwise_map]; exact ok.one
    · obtain ⟨x, hx, rfl⟩ := List.mem_map.1 ha
      rw [List.mem_singleton.1 hb]
      intro e
      obtain ⟨j, hj, rfl⟩ := List.mem_iff_getElem.1 hx
      have : hasI l id = true := hasI_iff.2 ⟨j, hj, by rw [k_get hj]; exact e⟩
      rw [this] at n3; cases n3
theorem mem_fil {p : Ky → Bool} {l : List Ky} {k : Ky} (h : k ∈ l.filter p) : k ∈ l := (List.mem_filter.1 h).1
theorem rot_sign {l m : List Ky} {id sec : ByteArray} {now life grace t : Int} (h : rotK l id sec now life grace = (m, 0)) (h1 : limI now ≤ limI t) (h2 : limI t < addI now life) :
    sgnK m t = some (newK id sec (addI now 0) (addI now life) grace) := by
  have hc := rot_chk h
  obtain ⟨_, _, _, _, rfl⟩ := rot_ok h
  unfold sgnK
  have h0 : ∀ k ∈ l.map (cutK (addI now 0)), inW k.sf k.su t = false := by
    intro k hk
    obtain ⟨x, hx, rfl⟩ := List.mem_map.1 hk
    unfold cutK inW
    dsimp only
    rw [addI_zero]
    rw [Bool.and_eq_false_iff, decide_eq_false_iff_not, decide_eq_false_iff_not]
    omega
  rw [if_pos hc, List.foldl_append, fold_none h0]
  · show bstK t none (newK id sec (addI now 0) (addI now life) grace) = _
    unfold bstK
    have : inW (newK id sec (addI now 0) (addI now life) grace).sf (newK id sec (addI now 0) (addI now life) grace).su t = true := by
      unfold newK inW
      dsimp only
      rw [addI_zero, decide_eq_true h1, decide_eq_true h2]; rfl
    rw [if_pos this]
theorem fnd_cut (l : List Ky) (id : ByteArray) (t : Int) : fndK (l.map (cutK t)) id = (fndK l id).map (cutK t) := by
  unfold fndK
  rw [List.find?_map]; rfl
theorem fnd_app (l m : List Ky) (id : ByteArray) : fndK (l ++ m) id = (fndK l id).or (fndK m id) := by unfold fndK; rw [List.find?_append]
theorem rot_acc {l m : List Ky} {id sec : ByteArray} {now life grace t s : Int} {k : Ky} (h : rotK l id sec now life grace = (m, 0)) (hk : k ∈ l) :
    (accK l k.id t s).2 = (accK m k.id t s).2 ∧ (accK l k.id t s).1.sec = (accK m k.id t s).1.sec ∧ (accK l k.id t s).1.af = (accK m k.id t s).1.af ∧ (accK l k.id t s).1.au = (accK m k.id t s).1.au := by
  obtain ⟨h1, h2, h3, h4, rfl⟩ := rot_ok h
  have ok := okK_of h1
  unfold accK
  rw [fnd_app, fnd_cut, fnd_of ok.one hk]
  dsimp only [Option.map_some, Option.some_or]
  have e1 : (cutK (addI now 0) k).af = k.af := rfl
  have e2 : (cutK (addI now 0) k).au = k.au := rfl
  rw [e1, e2]
  split
  · exact ⟨rfl, rfl, rfl, rfl⟩
  · exact ⟨rfl, rfl, rfl, rfl⟩
/-! ### Prune -/
theorem pru_chk {l : List Ky} {now : Int} (h : chkK l = 0) : chkK (pruK l now) = 0 := by
  have ok := okK_of h
  unfold pruK
  exact chk_ok ⟨Nat.le_trans (List.length_filter_le _ _) ok.len, fun k hk => ok.word k (mem_fil hk), fun k hk => ok.cln k (mem_fil hk), fun k hk => ok.win k (mem_fil hk), ok.one.filter _⟩
theorem pru_sign {l : List Ky} {now t : Int} (h : chkK l = 0) (ht : limI now ≤ limI t) : sgnK (pruK l now) t = sgnK l t := by
  have ok := okK_of h
  unfold sgnK
  rw [if_pos h, if_pos (pru_chk h)]
  unfold pruK
  refine fold_filter fun k hk hw => ?_
  obtain ⟨w1, w2, w3, w4, w5, w6⟩ := winB_iff.1 (ok.win k hk)
  have := inW_bd hw
  rw [addI_zero]
  exact decide_eq_true (by omega)
theorem pru_acc {l : List Ky} {now t : Int} (id : ByteArray) (h : chkK l = 0) (ht : limI now ≤ limI t) :
    (accK l id t 0).1 = (accK (pruK l now) id t 0).1 ∧ ((accK l id t 0).2 = (accK (pruK l now) id t 0).2 ∨ (accK l id t 0).2 = 13 ∧ (accK (pruK l now) id t 0).2 = 26) := by
  have ok := okK_of h
  unfold accK
  cases hf : fndK l id with
  | none =>
    have : fndK (pruK l now) id = none := by
      refine fnd_none fun k hk e => ?_
      unfold fndK at hf
      rw [List.find?_eq_none] at hf
      exact absurd (decide_eq_true e) (hf k (mem_fil hk))
    rw [this]
    exact ⟨rfl, .inl rfl⟩
  | some k =>
    obtain ⟨hk, rfl⟩ := fnd_mem hf
    obtain ⟨w1, w2, w3, w4, w5, w6⟩ := winB_iff.1 (ok.win k hk)
    by_cases hp : limI now < k.au
    · have : fndK (pruK l now) k.id = some k := by
        refine fnd_of ?_ (List.mem_filter.2 ⟨hk, ?_⟩)
        · exact ok.one.filter _
        · rw [addI_zero]; exact decide_eq_true hp
      rw [this]
      exact ⟨rfl, .inl rfl⟩
    · have : fndK (pruK l now) k.id = none := by
        refine fnd_none fun x hx e => ?_
        obtain ⟨hx1, hx2⟩ := List.mem_filter.1 hx
        have := id_one ok.one hx1 hk e
        subst this
        rw [addI_zero] at hx2
        exact hp (of_decide_eq_true hx2)
      rw [this]
      dsimp only
      have hc : checkI k.af k.au t 0 = 13 := by
        have : skewI 0 = 0 := by decide
        unfold checkI
        rw [this, if_neg (by omega), if_neg (by omega), if_pos (by omega)]
      rw [hc, if_pos (by decide)]
      exact ⟨rfl, .inr ⟨rfl, rfl⟩⟩
end Go.Proofs.YtgepcbggkfjlgaaGreatDoor
end
