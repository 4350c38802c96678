/-
  Texts of the schema layer and of those beneath it, joined: CodecBuild, CodecStr, CodecC, CodecDec, CodecInt, CodecIntP, CodecEsc, CodecREsc. Conditions stand at each contract.
-/
import Derived.Lib.Builder
import Derived.Lib.AppendStr
import Derived.Laws.Externs
import Derived.Laws.RangeAny
import Derived.Laws.RangeString
import Derived.Lib.RuneCount
import Derived.Lib.AtoiAllCases
import Derived.Lib.LaidTab
import Derived.Deep.RegionHeld3
import Derived.Deep.AppendLies
import Derived.Test.YtclfjdnemafmeaaGreatDoorM01
import Derived.Test.YtclfjdnemafmeaaGreatDoorM08

section
/-
  Contracts of strings.Builder as this program's translation has it: copyCheck, WriteByte, WriteString, String, at a builder that the call itself made. Condition: at most 2^47 bytes.
-/
set_option maxRecDepth 100000
set_option linter.unusedVariables false
set_option linter.unusedSimpArgs false
set_option linter.unnecessarySimpa false
namespace Go.Proofs.YtclfjdnemafmeaaGreatDoor
open Go.RowKit Go.PlainAid

theorem bsize : (Tryz.prog.info? 97).map (·.size) = some 2 := by kernel_rfl
theorem blies : liesAt Tryz.prog Tryz.prog.depth 97 (2 / Tryz.prog.cellsOf 97) 0 97 1 = true := by kernel_rfl

set_option maxHeartbeats 1000000 in
set_option maxRecDepth 100000 in
/-- a builder that was written before -/
theorem check_used (b : Nat) (w : World) (h0 : w.cell? ⟨b, 0, none⟩ = some (.pointer (some ⟨b, 0, none⟩))) :
    Calls Tryz.prog 110 #[.pointer (some ⟨b, 0, none⟩)] w fun e w' => e = .returned (.tuple #[]) ∧ w' = w := by
  obtain ⟨j, hj, _⟩ := Option.map_eq_some_iff.1 bsize
  go_enter Tryz.func110, Tryz.ntmps110
  go_wp2
  rw [Lib.run_neq_ptr_same w _ Tryz.underlying94 hj]
  go_wp2
  go_end0
  exact ⟨rfl, rfl⟩

set_option maxHeartbeats 1000000 in
set_option maxRecDepth 100000 in
/-- a fresh one: it notes its own address -/
theorem check_fresh (b : Nat) (w : World) (h0 : w.cell? ⟨b, 0, none⟩ = some (.pointer none)) (hsh : w.shape? b = some (97, 2)) (hfz : w.frozen? ⟨b, 0, none⟩ = false) :
    Calls Tryz.prog 110 #[.pointer (some ⟨b, 0, none⟩)] w fun e w' => e = .returned (.tuple #[]) ∧ w' = w.setCell ⟨b, 0, none⟩ (.pointer (some ⟨b, 0, none⟩)) := by
  obtain ⟨j, hj, hjs⟩ := Option.map_eq_some_iff.1 bsize
  go_enter Tryz.func110, Tryz.ntmps110
  go_wp2
  rw [Lib.run_to_unsafe w ⟨b, 0, none⟩ Tryz.underlying94 Tryz.underlying156 hj (by rw [hjs]; decide) hsh (Nat.zero_lt_succ 1)]
  simp only [Result.andThen]
  rw [Oper.upon_value]
  go_wp2
  rw [run_callFunc_extern Tryz.func146 (by kernel_rfl) (by kernel_rfl) (by kernel_rfl) (e := Extern.AbiNoEscape.same) (by kernel_rfl)]
  rw [Lib.run_noEscape]
  simp only [Result.andThen]
  rw [Oper.upon_value]
  go_wp2
  rw [Lib.run_from_unsafe w ⟨b, 0, none⟩ Tryz.underlying156 Tryz.underlying94 hj hsh blies]
  simp only [Result.andThen]
  rw [Oper.upon_value]
  go_wp2
  go_end0
  exact ⟨rfl, rfl⟩

/-- a builder of the call's own that holds the bytes l -/
def Bld (B b : Nat) (l : List UInt8) (w : World) : Prop := Lib.IsBuilder 97 5 B b (bcells l) w

theorem check_any (B b : Nat) (bs : List Value) (w : World) (h : Lib.IsBuilder 97 5 B b bs w) :
    Calls Tryz.prog 110 #[.pointer (some ⟨b, 0, none⟩)] w fun e w' => e = .returned (.tuple #[]) ∧ (Lib.BuilderAt 97 5 B b (.pointer (some ⟨b, 0, none⟩)) bs w' ∧ Below B w w') := by
  rcases h with h | h
  · refine (check_fresh b w h.cell0 h.shape h.frozen0).mono ?_
    rintro e w' ⟨rfl, rfl⟩
    exact ⟨rfl, h.used _, (Below.refl B w).setCell (p := ⟨b, 0, none⟩) h.1 _⟩
  · refine (check_used b w h.cell0).mono ?_
    rintro e w' ⟨rfl, rfl⟩
    exact ⟨rfl, h, Below.refl B _⟩

/-- 'b = append(b, c)' as push_byte, telling what has grown -/
theorem push_byte_g {ops : Array Oper} {rest : List Oper} {o : Oper} {a : Act} {Q : Exit → Act → World → Prop} (wr : World) {base : Nat} {v : Value} {n : Nat} {xs : List Value} (hown : wr.ownsRow base 5 1 v n xs) (s x : Operand)
    (c : Int) (hgd : o.guard = none)
    (ho : o.op = .call { callee := .builtin .append, args := #[s, x], argTypes := #[95, 95] })
    (hs : a.eval s = v) (hx : a.eval x = .slice (some ⟨wr.heap.size, 0, none⟩) 1 1) (hn : n + 1 ≤ 140737488355328) (hbase : base ≤ wr.heap.size)
    (h : ∀ v' w', w'.ownsRow base 5 1 v' (n + 1) (xs ++ [.int .u8 c]) → (wr.alloc (.cells #[.int .u8 c] 5)).grownBy w' v.ownBlock → wpList Tryz.prog ops Q rest (a.put o.dst v') w') :
    wpList Tryz.prog ops Q (o :: rest) a (wr.alloc (.cells #[.int .u8 c] 5)) := by
  obtain ⟨i0, hi, hz0, hz1, hz2⟩ := info_parts info5
  refine wpList_append_own _ hgd s x 95 ho base 5 i0 (.int .u8 0) 1 1 Tryz.underlying95 hi hz0 hz1 hz2 rfl (by decide) v n xs hs (hown.alloc _) ⟨wr.heap.size, 0, none⟩ 1 1 [.int .u8 c] hx rfl
    (cell_one_new _ _ _) (by intro u hu; simp at hu; subst hu; rfl) (by unfold maxLen; omega) (by omega) (by simp; omega) ?_
  intro v' w' h1 h2 _
  exact h v' w' h1 h2

set_option maxHeartbeats 2000000 in
set_option maxRecDepth 100000 in
theorem writeByte_cells (B b : Nat) (bs : List Value) (c : Int) (w : World) (h : Lib.IsBuilder 97 5 B b bs w) (hlen : bs.length + 1 ≤ 140737488355328) (hBw : B ≤ w.heap.size) :
    Calls Tryz.prog 197 #[.pointer (some ⟨b, 0, none⟩), .int .u8 c] w fun e w' => e = .returned .nilIface ∧ (Lib.BuilderAt 97 5 B b (.pointer (some ⟨b, 0, none⟩)) (bs ++ [.int .u8 c]) w' ∧ Below B w w') := by
  go_enter Tryz.func197, Tryz.ntmps197
  go_wp2_with (go_at_call 110; refine (check_any B b bs _ h).mono ?_)
  rintro e w1 ⟨rfl, h1, hb1⟩
  obtain ⟨hB, v, hbk, hown, hne⟩ := h1
  have c1 : w1.cell? ⟨b, 1, none⟩ = some v := by rw [Lib.cell_of_heap hbk]; rfl
  have HZ := hb1.size
  go_wp2_with (at_builtin; refine push_byte_g w1 hown (.tmp 11) (.tmp 13) _ ?_ ?_ ?_ ?_ ?_ ?_ ?_; exact rfl; exact rfl; exact rfl; exact rfl; omega; omega)
  intro v' w2 hown' hgrow
  have hlt : b < w1.heap.size := by
    rcases Nat.lt_or_ge b w1.heap.size with h' | h'
    · exact h'
    · simp [Array.getElem?_eq_none h'] at hbk
  have hb2 : w2.heap[b]? = some (.cells #[.pointer (some ⟨b, 0, none⟩), v] 97 (0, 0)) := by
    rw [hgrow.block b (by simp; omega) (fun e => hne e.symm), Lib.alloc_old w1 _ b hlt]
    exact hbk
  have d1 : w2.cell? ⟨b, 1, none⟩ = some v := by rw [Lib.cell_of_heap hb2]; rfl
  have f1 : w2.frozen? ⟨b, 1, none⟩ = false := Lib.frozen_of_heap hb2 1
  obtain ⟨g, cap, rfl⟩ : ∃ g cap, v' = .slice (some ⟨g, 0, none⟩) (bs.length + 1) cap := by
    rcases hown'.2 with ⟨_, h0⟩ | ⟨g, cap, cur, hv, _⟩
    · omega
    · exact ⟨g, cap, hv⟩
  go_wp2
  go_ret
  refine ⟨rfl, ?_, ?_⟩
  · exact Lib.BuilderAt.put (T := 97) (e := 5) hB hb2 (bs' := bs ++ [.int .u8 c]) (by simpa using hown') (by decide)
  · exact ((hb1.alloc (by omega) _).grown hgrow (by simp; omega) (fun k hk => (hown.lt k hk).1)).setCell (p := ⟨b, 1, none⟩) hB _

/-- WriteByte at a builder that holds the bytes l -/
theorem writeByte_s (B b : Nat) (l : List UInt8) (c : UInt8) (x : Int) (w : World) (h : Bld B b l w) (hx : x = (c.toNat : Int)) (hlen : l.length ≤ 100000000000) (hBw : B ≤ w.heap.size) :
    Calls Tryz.prog 197 #[.pointer (some ⟨b, 0, none⟩), .int .u8 x] w fun e w' => e = .returned .nilIface ∧ Bld B b (l ++ [c]) w' ∧ Below B w w' := by
  subst hx
  refine (writeByte_cells B b (bcells l) c.toNat w h (by rw [bcells_length]; omega) hBw).mono fun e w' h => ⟨h.1, ?_, h.2.2⟩
  unfold Bld
  rw [bcells_append]
  exact .inr h.2.1

/-- String at a builder that holds the bytes l -/
theorem string_s (B b : Nat) (l : List UInt8) (w : World) (h : Bld B b l w) (hBw : B ≤ w.heap.size) :
    Calls Tryz.prog 71 #[.pointer (some ⟨b, 0, none⟩)] w fun e w' => e = .returned (.string ⟨l.toArray⟩) ∧ Below B w w' :=
  (Tryz.Builder_String_any B b l w h hBw).mono fun e w' h => ⟨h.1, h.2⟩
/-- a fresh builder -/
theorem bld_new (w : World) : Bld w.heap.size w.heap.size [] (w.alloc (.cells #[.pointer none, .slice none 0 0] 97)) := Lib.fresh_isBuilder _ _ w
theorem Bld.below {B b : Nat} {l : List UInt8} {w w' : World} (h : Bld B b l w) (hb : Below w.heap.size w w') : Bld B b l w' := by
  have one : ∀ p, Lib.BuilderAt 97 5 B b p (bcells l) w → Lib.BuilderAt 97 5 B b p (bcells l) w' := fun p h => by
    have hl := h.lt
    obtain ⟨hB, v, hbk, hown, hne⟩ := h
    refine ⟨hB, v, by rw [hb.block b hl]; exact hbk, ?_, hne⟩
    exact hown.kept (row := none) ⟨hb.os, hb.tape, hb.output, hb.size, fun k hk _ => hb.block k hk⟩ (by
      cases h : v.ownBlock
      · exact .inl rfl
      · exact .inr (by simp))
  rcases h with h | h
  · exact .inl (one _ h)
  · exact .inr (one _ h)

end Go.Proofs.YtclfjdnemafmeaaGreatDoor
end

section
/-
  The contract of strings.Builder's WriteString as this program's translation has it, at a builder that the call itself made. Condition: at most 2^46 bytes.
-/
set_option maxRecDepth 100000
set_option linter.unusedVariables false
set_option linter.unusedSimpArgs false
set_option linter.unnecessarySimpa false
namespace Go.Proofs.YtclfjdnemafmeaaGreatDoor
open Go.RowKit Go.PlainAid

theorem strCells_b (s : ByteArray) : Lib.strCells s = bcells s.data.toList := rfl

set_option maxHeartbeats 2000000 in
set_option maxRecDepth 100000 in
theorem writeString_cells (B b : Nat) (bs : List Value) (s : ByteArray) (w : World) (h : Lib.IsBuilder 97 5 B b bs w) (hlen : bs.length + s.size ≤ 140737488355328) (hBw : B ≤ w.heap.size) :
    Calls Tryz.prog 67 #[.pointer (some ⟨b, 0, none⟩), .string s] w fun e w' => e = .returned (.tuple #[.int .i64 s.size, .nilIface]) ∧ (Lib.BuilderAt 97 5 B b (.pointer (some ⟨b, 0, none⟩)) (bs ++ Lib.strCells s) w' ∧ Below B w w') := by
  obtain ⟨i0, hi, hz0, hz1, hz2⟩ := info_parts info5
  go_enter Tryz.func67, Tryz.ntmps67
  go_wp2_with (go_at_call 110; refine (check_any B b bs _ h).mono ?_)
  rintro e w1 ⟨rfl, h1, hb1⟩
  obtain ⟨hB, v, hbk, hown, hne⟩ := h1
  have c1 : w1.cell? ⟨b, 1, none⟩ = some v := by rw [Lib.cell_of_heap hbk]; rfl
  have HZ := hb1.size
  have hlt : b < w1.heap.size := by
    rcases Nat.lt_or_ge b w1.heap.size with h' | h'
    · exact h'
    · simp [Array.getElem?_eq_none h'] at hbk
  go_wp2_with (at_builtin; refine Lib.wpList_append_own_string w1 ?_ (.tmp 12) (.tmp 13) 95 9 ?_ B 5 i0 Tryz.underlying95 Tryz.underlying9 hi hz0 hz1 hz2 v bs.length bs ?_ hown s ?_ ?_ ?_ ?_ ?_; exact rfl; exact rfl; exact rfl; exact rfl; (unfold maxLen; omega); omega; omega)
  intro v' w2 hown' hgrow hnil
  have hb2 : w2.heap[b]? = some (.cells #[.pointer (some ⟨b, 0, none⟩), v] 97 (0, 0)) := by
    rw [hgrow.block b hlt (fun e => hne e.symm)]
    exact hbk
  have d1 : w2.cell? ⟨b, 1, none⟩ = some v := by rw [Lib.cell_of_heap hb2]; rfl
  have f1 : w2.frozen? ⟨b, 1, none⟩ = false := Lib.frozen_of_heap hb2 1
  have hlen' : (bs ++ Lib.strCells s).length = bs.length + s.size := by simp [Lib.strCells_length]
  have hbel : Below B w w2 := hb1.grown hgrow (by omega) (fun k hk => (hown.lt k hk).1)
  have hcase : v' = .slice none 0 0 ∨ ∃ g n cap, v' = .slice (some ⟨g, 0, none⟩) n cap := by
    rcases hown'.2 with ⟨h, h0⟩ | ⟨g, cap, cur, hv, _⟩
    · exact .inl h
    · exact .inr ⟨g, _, cap, hv⟩
  rcases hcase with rfl | ⟨g, n, cap, rfl⟩
  · go_wp2
    go_ret2
    refine ⟨rfl, ?_, hbel.setCell (p := ⟨b, 1, none⟩) hB _⟩
    exact Lib.BuilderAt.put (T := 97) (e := 5) hB hb2 (bs' := bs ++ Lib.strCells s) (by rw [hlen']; exact hown') (by decide)
  · go_wp2
    go_ret2
    refine ⟨rfl, ?_, hbel.setCell (p := ⟨b, 1, none⟩) hB _⟩
    exact Lib.BuilderAt.put (T := 97) (e := 5) hB hb2 (bs' := bs ++ Lib.strCells s) (by rw [hlen']; exact hown') (by decide)

/-- WriteString at a builder that holds the bytes l -/
theorem writeString_s (B b : Nat) (l : List UInt8) (s : ByteArray) (w : World) (h : Bld B b l w) (hlen : l.length + s.size ≤ 100000000000) (hBw : B ≤ w.heap.size) :
    Calls Tryz.prog 67 #[.pointer (some ⟨b, 0, none⟩), .string s] w fun e w' => e = .returned (.tuple #[.int .i64 s.size, .nilIface]) ∧ Bld B b (l ++ s.data.toList) w' ∧ Below B w w' := by
  refine (writeString_cells B b (bcells l) s w h (by rw [bcells_length]; omega) hBw).mono fun e w' h => ⟨h.1, ?_, h.2.2⟩
  unfold Bld
  rw [bcells_append, ← strCells_b]
  exact .inr h.2.1

end Go.Proofs.YtclfjdnemafmeaaGreatDoor
end

section
/-
  Plain functions for the text forms of lists: the pieces between the bars, reading them, writing them. No condition.
-/
set_option maxRecDepth 100000
set_option linter.unusedVariables false
set_option linter.unusedSimpArgs false
set_option linter.unnecessarySimpa false
namespace Go.Proofs.YtclfjdnemafmeaaGreatDoor
open Go.PlainAid

/-- the pieces between the bytes b -/
def pieces (b : UInt8) : List UInt8 → List (List UInt8)
  | [] => [[]]
  | c :: l => if c = b then [] :: pieces b l else match pieces b l with
    | p :: r => (c :: p) :: r
    | [] => [[c]]
theorem occ_one (l : List UInt8) (b : UInt8) (i : Nat) : Lib.occAt l [b] i = true ↔ l[i]? = some b := by
  unfold Lib.occAt
  rw [← List.head?_drop]
  cases l.drop i with
  | nil => simp
  | cons c m =>
    simp only [List.isPrefixOf, Bool.and_true, List.head?_cons, Option.some.injEq, beq_iff_eq]
    exact eq_comm
theorem pieces_hit (b : UInt8) : ∀ (l : List UInt8) (i : Nat), l[i]? = some b → (∀ j, j < i → l[j]? ≠ some b) → pieces b l = l.take i :: pieces b (l.drop (i + 1))
  | [], i, h, _ => by simp at h
  | c :: l, 0, h, _ => by
    have : c = b := by simpa using h
    conv => lhs; unfold pieces
    rw [if_pos this]; rfl
  | c :: l, i + 1, h, hn => by
    have hc : c ≠ b := fun e => hn 0 (by omega) (by rw [e]; rfl)
    have ih := pieces_hit b l i (by simpa using h) (fun j hj => by have := hn (j + 1) (by omega); simpa using this)
    conv => lhs; unfold pieces
    rw [if_neg hc, ih]
    rfl
theorem pieces_miss (b : UInt8) : ∀ (l : List UInt8), (∀ j : Nat, l[j]? ≠ some b) → pieces b l = [l]
  | [], _ => rfl
  | c :: l, hn => by
    have hc : c ≠ b := fun e => hn 0 (by rw [e]; rfl)
    have ih := pieces_miss b l (fun j => by have := hn (j + 1); simpa using this)
    unfold pieces
    rw [if_neg hc, ih]
/-- Cut at one byte -/
theorem cut_one (t : ByteArray) (b : UInt8) : (cutOk t ⟨#[b]⟩ = true ∧ pieces b t.data.toList = (cutBef t ⟨#[b]⟩).data.toList :: pieces b (cutAft t ⟨#[b]⟩).data.toList ∧ (cutAft t ⟨#[b]⟩).size < t.size ∧ (cutBef t ⟨#[b]⟩).size ≤ t.size ∧
      (∀ j : Nat, (cutBef t ⟨#[b]⟩).data.toList[j]? ≠ some b)) ∨
    (cutOk t ⟨#[b]⟩ = false ∧ pieces b t.data.toList = [t.data.toList] ∧ cutBef t ⟨#[b]⟩ = t ∧ cutAft t ⟨#[b]⟩ = ⟨#[]⟩) := by
  have e : (⟨#[b]⟩ : ByteArray).data.toList = [b] := rfl
  rcases Lib.index_spec t.data.toList [b] with ⟨hi, hn⟩ | ⟨i, hi, hle, ho, hno⟩
  · refine .inr ?_
    have hcut : Lib.cut t.data.toList (⟨#[b]⟩ : ByteArray).data.toList = (t.data.toList, [], false) := by
      unfold Lib.cut; rw [e, hi]; rfl
    refine ⟨by unfold cutOk; rw [hcut], ?_, ?_, ?_⟩
    · refine pieces_miss b _ (fun j hj => ?_)
      have hlt : j < t.data.toList.length := (List.getElem?_eq_some_iff.1 hj).1
      have := hn j (by omega)
      rw [(occ_one _ _ _).2 hj] at this
      cases this
    · unfold cutBef; rw [hcut]
    · unfold cutAft; rw [hcut]
  · refine .inl ?_
    have hget := (occ_one _ _ _).1 ho
    have hlt : i < t.data.toList.length := (List.getElem?_eq_some_iff.1 hget).1
    have hcut : Lib.cut t.data.toList (⟨#[b]⟩ : ByteArray).data.toList = (t.data.toList.take i, t.data.toList.drop (i + 1), true) := by
      unfold Lib.cut; rw [e, hi, if_pos (by omega)]; simp
    have hno' : ∀ j, j < i → t.data.toList[j]? ≠ some b := fun j hj h => by
      have := hno j hj
      rw [(occ_one _ _ _).2 h] at this
      cases this
    have eb : (cutBef t ⟨#[b]⟩).data.toList = t.data.toList.take i := by unfold cutBef; rw [hcut]
    have ea : (cutAft t ⟨#[b]⟩).data.toList = t.data.toList.drop (i + 1) := by unfold cutAft; rw [hcut]
    refine ⟨by unfold cutOk; rw [hcut], ?_, ?_, ?_, ?_⟩
    · rw [eb, ea]; exact pieces_hit b _ i hget hno'
    · rw [Lib.size_eq, Lib.size_eq t, ea, List.length_drop]; omega
    · rw [Lib.size_eq, Lib.size_eq t, eb, List.length_take]; omega
    · intro j hj
      rw [eb, List.getElem?_take] at hj
      by_cases h : j < i
      · rw [if_pos h] at hj; exact hno' j h hj
      · rw [if_neg h] at hj; cases hj
/-- all pieces read -/
def readAll : List (List UInt8) → Option (List (List UInt8))
  | [] => some []
  | p :: r => match unesc p with
    | some x => (readAll r).map (x :: ·)
    | none => none
def splitL (l : List UInt8) : Option (List (List UInt8)) := if l = [45] then some [] else if l = [37, 50, 68] then some [[45]] else readAll (pieces 124 l)
def ofL (l : List UInt8) : ByteArray := ⟨l.toArray⟩
/-- the strings that Split returns, and its error -/
def splS (s : ByteArray) : List ByteArray := match splitL s.data.toList with
  | some l => l.map ofL
  | none => []
def splE (s : ByteArray) : Int := match splitL s.data.toList with
  | some _ => 0
  | none => 4
theorem unesc_le (l : List UInt8) : ∀ m, unesc l = some m → m.length ≤ l.length := by
  intro m h
  induction hn : l.length using Nat.strongRecOn generalizing l m with
  | ind n ih =>
    cases l with
    | nil => unfold unesc at h; cases h; simp
    | cons c r =>
      unfold unesc at h
      by_cases hc : c = 37
      · rw [if_pos hc] at h
        match r, h, hn with
        | a :: b :: r', h, hn =>
          simp only [] at h
          split at h
          · obtain ⟨x, hx, rfl⟩ := Option.map_eq_some_iff.1 h
            have := ih r'.length (by simp at hn; omega) r' x hx rfl
            simp at hn ⊢; omega
          · cases h
        | [a], h, _ => cases h
        | [], h, _ => cases h
      · rw [if_neg hc] at h
        split at h
        · obtain ⟨x, hx, rfl⟩ := Option.map_eq_some_iff.1 h
          have := ih r.length (by simp at hn; omega) r x hx rfl
          simp at hn ⊢; omega
        · cases h

end Go.Proofs.YtclfjdnemafmeaaGreatDoor
end

section
/-
  Plain functions for decimal forms, and the contract of codec.decimal. Condition: at most 1000000000 bytes.
-/
set_option maxRecDepth 100000
set_option linter.unusedVariables false
set_option linter.unusedSimpArgs false
set_option linter.unnecessarySimpa false
namespace Go.Proofs.YtclfjdnemafmeaaGreatDoor
open Go.RowKit Go.PlainAid

def digB (c : UInt8) : Bool := decide (48 ≤ c.toNat) && decide (c.toNat ≤ 57)
/-- without one leading minus -/
def stripL (l : List UInt8) : List UInt8 := Lib.trimPrefix l [45]
def digsB (l : List UInt8) : Bool := match l with
  | [] => false
  | c :: _ => !(c == 48) && l.all digB
def decB (l : List UInt8) : Bool := decide (l = [48]) || digsB (stripL l)
theorem digsB_nil : digsB [] = false := rfl

theorem digs_at {t : ByteArray} (j : Nat) (h : j < t.size) (hd : digB (chr t j) = false) : digsB t.data.toList = false := by
  have hm : chr t j ∈ t.data.toList := by
    unfold chr
    rw [List.getD_eq_getElem?_getD, List.getElem?_eq_getElem (by simpa using h)]
    exact List.getElem_mem _
  have : t.data.toList.all digB = false := by
    rw [List.all_eq_false]
    exact ⟨_, hm, by rw [hd]; simp⟩
  unfold digsB
  split
  · rfl
  · rw [this]; simp
theorem digs_all {t : ByteArray} (h0 : t.data.toList ≠ []) (h1 : chr t 0 ≠ 48) (h : ∀ j, j < t.size → digB (chr t j) = true) : digsB t.data.toList = true := by
  have : t.data.toList.all digB = true := by
    rw [List.all_eq_true]
    intro c hc
    obtain ⟨j, hj, rfl⟩ := List.getElem_of_mem hc
    have := h j (by simpa using hj)
    unfold chr at this
    rw [List.getD_eq_getElem?_getD, List.getElem?_eq_getElem hj] at this
    exact this
  unfold chr at h1
  cases e : t.data.toList with
  | nil => exact absurd e h0
  | cons c r =>
    rw [e] at h1 this
    unfold digsB
    rw [this]
    simpa using h1
theorem digs_zero {t : ByteArray} (h1 : chr t 0 = 48) : digsB t.data.toList = false := by
  unfold chr at h1
  cases e : t.data.toList with
  | nil => rfl
  | cons c r =>
    rw [e] at h1
    have : c = 48 := by simpa using h1
    unfold digsB; rw [this]; rfl

theorem byte_chr (t : ByteArray) (k : Nat) (h : k < t.size) : ((t[k]'h).toNat : Int) = bt t k := by unfold bt; rw [dif_pos h]
/-- one step of a range over a string, at a byte below 128 -/
theorem next_low (w : World) (t : ByteArray) (k : Nat) (h : k < t.size) (hc : bt t k < 128) (ty : TypeId) :
    (Instr.next (.pointer (some ⟨w.heap.size, 0, none⟩)) true ty).run Tryz.prog (w.iter t k) = .ok (.tuple #[.bool true, .int .i64 k, .int .i32 (bt t k)]) (w.iter t (k + 1)) := by
  have hb := byte_chr t k h
  rw [run_next_ascii (P := Tryz.prog) w t k ty h (by omega), hb]
/-- .. and above -/
theorem next_high (w : World) (t : ByteArray) (k : Nat) (h : k < t.size) (hc : 128 ≤ bt t k) : ∃ (r : Int) (d : Nat), 128 ≤ r ∧ 1 ≤ d ∧ (∀ ty,
    (Instr.next (.pointer (some ⟨w.heap.size, 0, none⟩)) true ty).run Tryz.prog (w.iter t k) = .ok (.tuple #[.bool true, .int .i64 k, .int .i32 r]) (w.iter t (k + d))) := by
  have hb := byte_chr t k h
  have hd := decode_high t k h (by omega)
  exact ⟨((Utf8.decode t k).1 : Int), (Utf8.decode t k).2, by omega, hd.2, fun ty => run_next_any (P := Tryz.prog) w t k ty h⟩
theorem below_iter {w : World} {t : ByteArray} {k : Nat} : Below w.heap.size w (w.iter t k) := (Below.refl _ _).alloc (Nat.le_refl _) _

/-- what TrimPrefix leaves -/
def undash (s : ByteArray) : ByteArray := ⟨(Lib.trimPrefix s.data.toList (⟨#[45]⟩ : ByteArray).data.toList).toArray⟩
theorem trim_dash (s t : ByteArray) (w : World) (h : Hid (t = undash s)) :
    Calls Tryz.prog 156 #[.string s, .string ⟨#[45]⟩] w fun e w' => e = .returned (.string t) ∧ w = w' :=
  (Tryz.strings_TrimPrefix _ _ _).mono fun e w' k => ⟨by rw [k.1, h.out]; rfl, k.2.symm⟩

set_option maxRecDepth 100000 in
set_option maxHeartbeats 4000000 in
theorem decimal_s (s : ByteArray) (w : World) (hs : s.size ≤ 1000000000) :
    Calls Tryz.prog 128 #[.string s] w fun e w' => e = .returned (.bool (decB s.data.toList)) ∧ Below w.heap.size w w' := by
  by_cases h1 : s.data.toList = [48]
  · have HE := Lib.hid (show decB s.data.toList = true by unfold decB; simp [h1])
    obtain rfl : s = ⟨#[48]⟩ := by rw [← Lib.mk_data s, h1]
    clear h1
    go_enter Tryz.func128, Tryz.ntmps128
    go_wp2
    go_ret
    exact ⟨by rw [HE.out]; rfl, Below.refl _ _⟩
  · have e1 : (s.toList == [48]) = false := by rw [Lib.toList_data]; simpa using h1
    obtain ⟨t, ht⟩ : ∃ t : ByteArray, t = undash s := ⟨_, rfl⟩
    have hts : t.size ≤ s.size := by
      rw [ht, undash, Lib.size_mk, Lib.size_eq]
      unfold Lib.trimPrefix; split <;> simp
    have HE := Lib.hid (show decB s.data.toList = digsB t.data.toList by unfold decB stripL; rw [ht]; simp [h1, undash])
    have HT := Lib.hid ht
    clear h1 ht
    by_cases h0 : t.size = 0
    · have HF := Lib.hid (show decB s.data.toList = false by
        rw [HE.out]
        have : t.data.toList = [] := List.length_eq_zero_iff.1 (by rw [← Lib.size_eq]; exact h0)
        rw [this]; rfl)
      have hte : t.toList.isEmpty = true := by rw [Lib.toList_data, List.length_eq_zero_iff.1 (show t.data.toList.length = 0 by rw [← Lib.size_eq]; exact h0)]; rfl
      go_enter Tryz.func128, Tryz.ntmps128
      go_wp2_with (go_at_call 156; refine (trim_dash _ _ _ HT).mono ?_; rintro e w' ⟨rfl, rfl⟩)
      go_ret
      exact ⟨by rw [HF.out]; rfl, Below.refl _ _⟩
    · have hte : t.toList.isEmpty = false := by
        rw [Lib.toList_data]
        cases e : t.data.toList with
        | nil => have := Lib.size_eq t; rw [e] at this; exact absurd this h0
        | cons _ _ => rfl
      have hb := get_bt t
      have h00 := bt_nonneg t 0
      have hpos : 0 < t.size := by omega
      by_cases h2 : chr t 0 = 48
      · have HF := Lib.hid (show decB s.data.toList = false by rw [HE.out, digs_zero h2])
        have h3 : (bt t 0 == 48) = true := by rw [bt_chr, h2]; rfl
        clear h2
        go_enter Tryz.func128, Tryz.ntmps128
        go_wp2_with (go_at_call 156; refine (trim_dash _ _ _ HT).mono ?_; rintro e w' ⟨rfl, rfl⟩)
        go_ret
        exact ⟨by rw [HF.out]; rfl, Below.refl _ _⟩
      · have H2 := Lib.hid h2
        have h3 : (bt t 0 == 48) = false := by
          rw [bt_chr]; refine beq_false_of_ne fun e => h2 ?_
          have h4 : (48 : UInt8).toNat = 48 := rfl
          exact UInt8.toNat_inj.1 (by omega)
        clear h2
        go_enter Tryz.func128, Tryz.ntmps128
        go_wp2_with (go_at_call 156; refine (trim_dash _ _ _ HT).mono ?_; rintro e w' ⟨rfl, rfl⟩)
        go_loopw [5] (fun _ wr => ∃ k : Nat, k ≤ t.size ∧ wr = w.iter t k ∧ Hid (∀ j, j < k → digB (chr t j) = true)) (fun _ wr => t.size - wr.iterPos w.heap.size)
        case atStart => exact ⟨0, Nat.zero_le _, rfl, Lib.hid fun j hj => absurd hj (Nat.not_lt_zero _)⟩
        case round =>
          obtain ⟨k, hk, rfl, HA⟩ := hrel
          by_cases hlt : k < t.size
          · have hk0 := bt_nonneg t k
            by_cases h128 : bt t k < 128
            · have hnx := next_low w t k hlt h128
              by_cases d1 : 48 ≤ bt t k
              · by_cases d2 : bt t k ≤ 57
                · have HD := Lib.hid (show digB (chr t k) = true by
                    have := bt_chr t k
                    unfold digB; simp; omega)
                  go_wp2
                  go_roundw
                  case rel => exact ⟨k + 1, by omega, rfl, Lib.hid fun j hj => if e : j = k then by rw [e]; exact HD.out else HA.out j (by omega)⟩
                  case measure => simp; omega
                · have HF := Lib.hid (show decB s.data.toList = false by
                    rw [HE.out]; refine digs_at k hlt ?_
                    have := bt_chr t k
                    unfold digB; simp; omega)
                  go_wp2
                  go_ret
                  exact ⟨by rw [HF.out]; rfl, below_iter⟩
              · have HF := Lib.hid (show decB s.data.toList = false by
                  rw [HE.out]; refine digs_at k hlt ?_
                  have := bt_chr t k
                  unfold digB; simp; omega)
                go_wp2
                go_ret
                exact ⟨by rw [HF.out]; rfl, below_iter⟩
            · obtain ⟨r, d, hr, hd, hnx⟩ := next_high w t k hlt (by omega)
              have HF := Lib.hid (show decB s.data.toList = false by
                rw [HE.out]; refine digs_at k hlt ?_
                have := bt_chr t k
                unfold digB; simp; omega)
              have hr1 : ¬ r < 48 := by omega
              have hr2 : 57 < r := by omega
              go_wp2
              go_ret
              exact ⟨by rw [HF.out]; rfl, below_iter⟩
          · have hnx : ∀ ty, (Instr.next (.pointer (some ⟨w.heap.size, 0, none⟩)) true ty).run Tryz.prog (w.iter t k) = _ := fun ty => run_next_end w t k ty hlt
            have HF := Lib.hid (show decB s.data.toList = true by
              rw [HE.out]
              refine digs_all (fun e => h0 (by rw [Lib.size_eq, e]; rfl)) H2.out (fun j hj => HA.out j (by omega)))
            go_wp2
            go_ret
            exact ⟨by rw [HF.out]; rfl, below_iter⟩

end Go.Proofs.YtclfjdnemafmeaaGreatDoor
end

section
/-
  What strconv's Itoa and Atoi ask of the world, and the contracts of codec.Int and codec.ReadInt. Condition: the library's table of powers and its error lie as the program's text lays them; at most 1000000000 bytes.
-/
set_option maxRecDepth 100000
set_option linter.unusedVariables false
set_option linter.unusedSimpArgs false
set_option linter.unnecessarySimpa false
namespace Go.Proofs.YtclfjdnemafmeaaGreatDoor
open Go.RowKit Go.PlainAid

def IntOk (w : World) : Prop := Lib.TabIs Tryz.prog w "internal/strconv.uint64pow10" .u64 Lib.pow10Tab ∧ ∃ tp p, w.var? Tryz.prog "strconv.ErrRange" = some #[.iface tp p]
theorem var_below {w w' : World} {B : Nat} {n : String} {cs : Array Value} (h : w.var? Tryz.prog n = some cs) (hb : Below B w w') (hB : w.heap.size ≤ B) : w'.var? Tryz.prog n = some cs := by
  unfold World.var? at h ⊢
  cases hg : Tryz.prog.globalNamed n with
  | none => rw [hg] at h; cases h
  | some g =>
    rw [hg] at h
    simp only [Option.bind_some] at h ⊢
    have hlt : g < w.heap.size := by
      rcases Nat.lt_or_ge g w.heap.size with k | k
      · exact k
      · rw [Array.getElem?_eq_none k] at h; cases h
    rw [hb.block g (by omega)]
    exact h
theorem IntOk.below {w w' : World} (h : IntOk w) (hb : Below w.heap.size w w') : IntOk w' :=
  ⟨var_below h.1 hb (Nat.le_refl _), by obtain ⟨tp, p, e⟩ := h.2; exact ⟨tp, p, var_below e hb (Nat.le_refl _)⟩⟩

theorem below_bw (w : World) (e : TypeId) (s : ByteArray) : Below w.heap.size w (Lib.bytesWorld w e s) :=
  ⟨rfl, rfl, rfl, by rw [Lib.bytesWorld_size]; omega, fun j hj => Lib.bytesWorld_at_old w e s j hj⟩
theorem below_grow (w : World) (k : Nat) (os : Array Obj) : Below w.heap.size w (Go.Sort.grow (w.drewN k) os) :=
  ⟨rfl, rfl, rfl, by simp [Go.Sort.grow], fun j hj => by simp [Go.Sort.grow, Array.getElem?_append, hj]⟩
theorem atoi_ok (s : ByteArray) (v : Int) (w : World) (hs : s.size ≤ 1000000000) (h : Lib.atoiAll s.data.toList = .ok v) :
    Calls Tryz.prog 129 #[.string s] w fun e w' => e = .returned (.tuple #[.int .i64 v, .nilIface]) ∧ Below w.heap.size w w' :=
  (Tryz.strconv_Atoi_ok s (by omega) v h w).mono fun e w' k => ⟨k.1, by
    rcases k.2 with rfl | ⟨t, rfl⟩
    · exact Below.refl _ _
    · exact below_bw _ _ _⟩
theorem atoi_range (s : ByteArray) (w : World) (hs : s.size ≤ 1000000000) (h : Lib.atoiAll s.data.toList = .range) (ho : IntOk w) :
    Calls Tryz.prog 129 #[.string s] w fun e w' => (∃ (n : Int) (t : TypeId) (N : Nat), e = .returned (.tuple #[.int .i64 n, .iface t (.pointer (some ⟨N, 0, none⟩))])) ∧ Below w.heap.size w w' := by
  obtain ⟨_, tp, p, hv⟩ := ho
  refine (Tryz.strconv_Atoi_range_var s (by omega) h tp p w hv).mono fun e w' ⟨N, h1, h2, h3, h4⟩ => ⟨⟨_, _, N, h1⟩, h4⟩
theorem itoa_s (n : Int) (w : World) (h0 : -9223372036854775808 ≤ n) (h1 : n ≤ 9223372036854775807) (ho : IntOk w) :
    Calls Tryz.prog 157 #[.int .i64 n] w fun e w' => e = .returned (.string (ofL (Lib.itoa n))) ∧ Below w.heap.size w w' :=
  (Tryz.strconv_Itoa n h0 h1 w ho.1).mono fun e w' ⟨k1, k, os, k2⟩ => ⟨k1, by rw [k2]; exact below_grow w k os⟩

/-- a parse that ends in a number or out of range -/
def Fair {α : Type} (x : Lib.NumEnd α) : Prop := (∃ v, x = .ok v) ∨ x = .range
theorem parse_digits : ∀ (l : List UInt8) (acc : Nat), l.all digB = true → Fair (Lib.parseUint10 acc l)
  | [], acc, _ => .inl ⟨acc, rfl⟩
  | c :: r, acc, h => by
    rw [List.all_cons, Bool.and_eq_true] at h
    have hc : 48 ≤ c.toNat ∧ c.toNat ≤ 57 := by simpa [digB] using h.1
    unfold Lib.parseUint10
    rw [if_pos hc]
    split
    · exact .inr rfl
    · split
      · exact .inr rfl
      · exact parse_digits r _ h.2
theorem mag_digits {l : List UInt8} (h : digsB l = true) : Fair (Lib.parseMag l) := by
  cases l with
  | nil => cases h
  | cons c r =>
    unfold digsB at h
    rw [Bool.and_eq_true] at h
    unfold Lib.parseMag
    rw [if_neg (by simp)]
    exact parse_digits _ _ h.2
theorem signless_fair {x : Lib.NumEnd Nat} (h : Fair x) : Fair (Lib.signless x) := by
  rcases h with ⟨v, rfl⟩ | rfl
  · unfold Lib.signless; dsimp only; split
    · exact .inr rfl
    · exact .inl ⟨_, rfl⟩
  · exact .inr rfl
theorem signed_fair {x : Lib.NumEnd Nat} (h : Fair x) : Fair (Lib.signed x) := by
  rcases h with ⟨v, rfl⟩ | rfl
  · unfold Lib.signed; dsimp only; split
    · exact .inr rfl
    · exact .inl ⟨_, rfl⟩
  · exact .inr rfl
theorem strip_minus (r : List UInt8) : stripL (45 :: r) = r := by simp [stripL, Lib.trimPrefix, Lib.hasPrefix]
theorem strip_plain (c : UInt8) (r : List UInt8) (h : c ≠ 45) : stripL (c :: r) = c :: r := by
  unfold stripL Lib.trimPrefix Lib.hasPrefix
  rw [if_neg]
  simp only [List.isPrefixOf, Bool.and_eq_true, beq_iff_eq]
  rintro ⟨e, _⟩; exact h e.symm
theorem dec_atoi {l : List UInt8} (h : decB l = true) : Fair (Lib.atoiAll l) := by
  unfold decB at h
  rw [Bool.or_eq_true] at h
  rcases h with h | h
  · have : l = [48] := by simpa using h
    rw [this]; exact .inl ⟨0, by decide⟩
  · cases l with
    | nil => cases h
    | cons c r =>
      by_cases hc : c = 45
      · subst hc
        rw [strip_minus] at h
        rw [Lib.atoiAll_minus]
        exact signed_fair (mag_digits h)
      · rw [strip_plain c r hc] at h
        have hd : digB c = true := by
          unfold digsB at h
          simp only [Bool.and_eq_true, List.all_cons] at h
          exact h.2.1
        have h2 : 48 ≤ c.toNat ∧ c.toNat ≤ 57 := by simpa [digB] using hd
        rw [Lib.atoiAll_plain c r (by omega) (by omega)]
        exact signless_fair (mag_digits h)
/-- what ReadInt returns -/
def readI (l : List UInt8) : Int × Int := if decB l then (match Lib.atoiAll l with
  | .ok v => (v, 0)
  | _ => (0, 27)) else (0, 4)

set_option maxRecDepth 100000 in
set_option maxHeartbeats 2000000 in
theorem readInt_s (s : ByteArray) (w : World) (hs : s.size ≤ 1000000000) (ho : IntOk w) :
    Calls Tryz.prog 94 #[.string s] w fun e w' => e = .returned (.tuple #[.int .i64 (readI s.data.toList).1, .int .i64 (readI s.data.toList).2]) ∧ Below w.heap.size w w' := by
  have HO := Lib.hid ho; clear ho
  cases hd : decB s.data.toList
  · have HE := Lib.hid (show readI s.data.toList = (0, 4) by unfold readI; rw [hd]; rfl)
    go_enter Tryz.func94, Tryz.ntmps94
    go_wp2_with (go_at_call 128; refine (decimal_s _ _ hs).mono ?_; rintro e w1 ⟨rfl, hb1⟩; rw [hd])
    go_ret2
    exact ⟨by rw [HE.out]; rfl, hb1⟩
  · rcases dec_atoi hd with ⟨v, ha⟩ | ha
    · have HE := Lib.hid (show readI s.data.toList = (v, 0) by unfold readI; rw [hd, ha]; rfl)
      have HA := Lib.hid ha; clear ha
      go_enter Tryz.func94, Tryz.ntmps94
      go_wp2_with (first
        | (go_at_call 128; refine (decimal_s _ _ hs).mono ?_; rintro e w1 ⟨rfl, hb1⟩; rw [hd])
        | (go_at_call 129; refine (atoi_ok s v _ hs HA.out).mono ?_; rintro e w2 ⟨rfl, hb2⟩))
      go_ret2
      exact ⟨by rw [HE.out]; rfl, hb1.trans (hb2.mono hb1.size)⟩
    · have HE := Lib.hid (show readI s.data.toList = (0, 27) by unfold readI; rw [hd, ha]; rfl)
      have HA := Lib.hid ha; clear ha
      go_enter Tryz.func94, Tryz.ntmps94
      go_wp2_with (first
        | (go_at_call 128; refine (decimal_s _ _ hs).mono ?_; rintro e w1 ⟨rfl, hb1⟩; rw [hd])
        | (go_at_call 129; refine (atoi_range s _ hs HA.out (HO.out.below hb1)).mono ?_; rintro e w2 ⟨⟨n, t, N, rfl⟩, hb2⟩))
      go_ret2
      exact ⟨by rw [HE.out]; rfl, hb1.trans (hb2.mono hb1.size)⟩

set_option maxRecDepth 100000 in
theorem int_s (n : Int) (w : World) (h0 : -9223372036854775808 ≤ n) (h1 : n ≤ 9223372036854775807) (ho : IntOk w) :
    Calls Tryz.prog 123 #[.int .i64 n] w fun e w' => e = .returned (.string (ofL (Lib.itoa n))) ∧ Below w.heap.size w w' := by
  have HO := Lib.hid ho; clear ho
  go_enter Tryz.func123, Tryz.ntmps123
  go_wp2_with (go_at_call 157; refine (itoa_s n _ h0 h1 HO.out).mono ?_; rintro e w1 ⟨rfl, hb1⟩)
  go_ret
  exact ⟨rfl, hb1⟩

end Go.Proofs.YtclfjdnemafmeaaGreatDoor
end

section
/-
  Decimal numerals and their values: what ReadInt returns, by the value of the digits. No condition.
-/
set_option maxRecDepth 100000
set_option linter.unusedVariables false
set_option linter.unusedSimpArgs false
set_option linter.unnecessarySimpa false
namespace Go.Proofs.YtclfjdnemafmeaaGreatDoor

/-- the value of digits behind acc -/
def valA (acc : Nat) (l : List UInt8) : Nat := l.foldl (fun a c => 10 * a + (c.toNat - 48)) acc
def valD (l : List UInt8) : Nat := valA 0 l
theorem valA_cons (a : Nat) (c : UInt8) (l : List UInt8) : valA a (c :: l) = valA (10 * a + (c.toNat - 48)) l := by
  unfold valA
  rw [List.foldl_cons]
theorem valD_snoc (l : List UInt8) (c : UInt8) : valD (l ++ [c]) = 10 * valD l + (c.toNat - 48) := by
  unfold valD valA
  rw [List.foldl_append, List.foldl_cons, List.foldl_nil]
theorem valA_ge : ∀ (l : List UInt8) (a : Nat), a ≤ valA a l
  | [], a => Nat.le_refl _
  | c :: l, a => by rw [valA_cons]; exact Nat.le_trans (by omega) (valA_ge l _)
theorem valA_mono : ∀ (l : List UInt8) (a b : Nat), a ≤ b → valA a l ≤ valA b l
  | [], a, b, h => h
  | c :: l, a, b, h => by rw [valA_cons, valA_cons]; exact valA_mono l _ _ (by omega)
theorem valD_take_le (l : List UInt8) (k : Nat) : valD (l.take k) ≤ valD l := by
  have h : valD l = valA (valD (l.take k)) (l.drop k) := by
    unfold valD valA
    rw [← List.foldl_append, List.take_append_drop]
  rw [h]; exact valA_ge _ _
theorem digB_bounds {c : UInt8} (h : digB c = true) : 48 ≤ c.toNat ∧ c.toNat ≤ 57 := by simpa [digB] using h
theorem parse_val : ∀ (l : List UInt8) (acc : Nat), acc < 18446744073709551616 → l.all digB = true →
    Lib.parseUint10 acc l = if valA acc l < 18446744073709551616 then .ok (valA acc l) else .range
  | [], acc, ha, h => by rw [if_pos (show valA acc [] < _ from ha)]; rfl
  | c :: r, acc, ha, h => by
    rw [List.all_cons, Bool.and_eq_true] at h
    have hc := digB_bounds h.1
    have hg := valA_ge r (10 * acc + (c.toNat - 48))
    unfold Lib.parseUint10
    rw [if_pos hc, valA_cons]
    split
    · rw [if_neg (by omega)]
    · split
      · rw [if_neg (by omega)]
      · rw [Nat.mul_comm acc 10]
        exact parse_val r _ (by omega) h.2
theorem val_dec (u : Nat) : valD (Lib.decDigits u) = u := by
  induction u using Nat.strongRecOn with
  | _ u ih =>
    by_cases h : u < 10
    · rw [Lib.decDigits, dif_pos h]
      show 10 * 0 + ((UInt8.ofNat (48 + u)).toNat - 48) = u
      rw [UInt8.toNat_ofNat']; omega
    · rw [Lib.decDigits, dif_neg h, valD_snoc, ih (u / 10) (by omega), UInt8.toNat_ofNat']; omega
theorem digs_snoc {l : List UInt8} {c : UInt8} (h : digsB l = true) (hc : digB c = true) : digsB (l ++ [c]) = true := by
  cases l with
  | nil => cases h
  | cons d r =>
    unfold digsB at h ⊢
    rw [List.cons_append]
    simp only [Bool.and_eq_true, List.all_cons, List.all_append, List.all_nil] at h ⊢
    exact ⟨h.1, h.2.1, h.2.2, hc, trivial⟩
theorem dig_of (d : Nat) (h : d < 10) : digB (UInt8.ofNat (48 + d)) = true := by
  unfold digB; rw [UInt8.toNat_ofNat']; simp; omega
theorem dec_digs (u : Nat) (h1 : 1 ≤ u) : digsB (Lib.decDigits u) = true := by
  induction u using Nat.strongRecOn with
  | _ u ih =>
    by_cases h : u < 10
    · rw [Lib.decDigits, dif_pos h]
      unfold digsB
      have h2 := dig_of u h
      simp only [Bool.and_eq_true, List.all_cons, List.all_nil]
      refine ⟨?_, h2, trivial⟩
      have : (UInt8.ofNat (48 + u) == 48) = false := by
        refine beq_false_of_ne fun e => ?_
        have e2 := congrArg UInt8.toNat e
        rw [UInt8.toNat_ofNat'] at e2
        have h4 : (48 : UInt8).toNat = 48 := rfl
        omega
      rw [this]; rfl
    · rw [Lib.decDigits, dif_neg h]
      exact digs_snoc (ih (u / 10) (by omega) (by omega)) (dig_of _ (by omega))
theorem digs_back : ∀ (n : Nat) (l : List UInt8), l.length = n → digsB l = true → Lib.decDigits (valD l) = l ∧ 1 ≤ valD l := by
  intro n
  induction n with
  | zero => intro l hl h; rw [List.length_eq_zero_iff.1 hl] at h; cases h
  | succ n ih =>
    intro l hl h
    rcases List.eq_nil_or_concat l with e | ⟨L, c, e⟩
    · rw [e] at hl; cases hl
    · rw [List.concat_eq_append] at e
      subst e
      have hLn : L.length = n := by simpa using hl
      cases L with
      | nil =>
        unfold digsB at h
        simp only [List.nil_append, Bool.and_eq_true, List.all_cons, List.all_nil] at h
        have hc := digB_bounds h.2.1
        have hne : c ≠ 48 := by simpa using h.1
        have hn : c.toNat ≠ 48 := fun e => hne (UInt8.toNat_inj.1 e)
        have hv : valD ([] ++ [c]) = c.toNat - 48 := by rw [valD_snoc]; show 10 * 0 + _ = _; omega
        rw [hv, Lib.decDigits, dif_pos (by omega)]
        refine ⟨?_, by omega⟩
        rw [show 48 + (c.toNat - 48) = c.toNat by omega, UInt8.ofNat_toNat]; rfl
      | cons d r =>
        unfold digsB at h
        rw [List.cons_append] at h
        simp only [Bool.and_eq_true, List.all_cons, List.all_append, List.all_nil] at h
        obtain ⟨i1, i2⟩ := ih (d :: r) hLn (by unfold digsB; simp only [Bool.and_eq_true, List.all_cons]; exact ⟨h.1, h.2.1, h.2.2.1⟩)
        have hc := digB_bounds h.2.2.2.1
        rw [valD_snoc, Lib.decDigits, dif_neg (by omega), show (10 * valD (d :: r) + (c.toNat - 48)) / 10 = valD (d :: r) by omega, show (10 * valD (d :: r) + (c.toNat - 48)) % 10 = c.toNat - 48 by omega, i1,
          show 48 + (c.toNat - 48) = c.toNat by omega, UInt8.ofNat_toNat]
        exact ⟨rfl, by omega⟩
theorem digs_parts {l : List UInt8} (h : digsB l = true) : l ≠ [] ∧ l.all digB = true := by
  cases l with
  | nil => cases h
  | cons c r =>
    unfold digsB at h
    rw [Bool.and_eq_true] at h
    exact ⟨by simp, h.2⟩
theorem mag_val {l : List UInt8} (h : digsB l = true) : Lib.parseMag l = if valD l < 18446744073709551616 then .ok (valD l) else .range := by
  unfold Lib.parseMag
  rw [if_neg (digs_parts h).1]
  exact parse_val l 0 (by omega) (digs_parts h).2
theorem digs_head {c : UInt8} {r : List UInt8} (h : digsB (c :: r) = true) : 49 ≤ c.toNat ∧ c.toNat ≤ 57 := by
  unfold digsB at h
  simp only [Bool.and_eq_true, List.all_cons] at h
  have := digB_bounds h.2.1
  have hne : c ≠ 48 := by simpa using h.1
  have hn : c.toNat ≠ 48 := fun e => hne (UInt8.toNat_inj.1 e)
  omega
theorem dec_plain {l : List UInt8} (h : digsB l = true) : decB l = true := by
  cases l with
  | nil => cases h
  | cons c r =>
    have := digs_head h
    unfold decB
    rw [strip_plain c r (fun e => by have h4 : (45 : UInt8).toNat = 45 := rfl; rw [e] at this; omega), h, Bool.or_true]
theorem dec_minus {r : List UInt8} : decB (45 :: r) = digsB r := by
  unfold decB
  rw [strip_minus]
  have : decide ((45 : UInt8) :: r = [48]) = false := decide_eq_false (by intro e; injection e with e1 _; exact absurd e1 (by decide))
  rw [this, Bool.false_or]
theorem signless_small {u : Nat} (h : u < 9223372036854775808) : Lib.signless (.ok u) = .ok (u : Int) := by unfold Lib.signless; dsimp only; rw [if_neg (by omega)]
theorem signless_big {u : Nat} (h : ¬ u < 9223372036854775808) : Lib.signless (.ok u) = .range := by unfold Lib.signless; dsimp only; rw [if_pos (by omega)]
theorem signed_small {u : Nat} (h : u ≤ 9223372036854775808) : Lib.signed (.ok u) = .ok (-(u : Int)) := by unfold Lib.signed; dsimp only; rw [if_neg (by omega)]
theorem signed_big {u : Nat} (h : ¬ u ≤ 9223372036854775808) : Lib.signed (.ok u) = .range := by unfold Lib.signed; dsimp only; rw [if_pos (by omega)]
theorem readI_plain {l : List UInt8} (h : digsB l = true) : readI l = if valD l < 9223372036854775808 then ((valD l : Int), 0) else (0, 27) := by
  unfold readI
  rw [dec_plain h, if_pos rfl]
  cases l with
  | nil => cases h
  | cons c r =>
    have hd := digs_head h
    rw [Lib.atoiAll_plain c r (by omega) (by omega), mag_val h]
    by_cases h1 : valD (c :: r) < 9223372036854775808
    · rw [if_pos h1, if_pos (by omega), signless_small h1]
    · rw [if_neg h1]
      by_cases h2 : valD (c :: r) < 18446744073709551616
      · rw [if_pos h2, signless_big h1]
      · rw [if_neg h2]; rfl
theorem readI_minus {r : List UInt8} (h : digsB r = true) : readI (45 :: r) = if valD r ≤ 9223372036854775808 then (-(valD r : Int), 0) else (0, 27) := by
  unfold readI
  rw [dec_minus, h, if_pos rfl, Lib.atoiAll_minus, mag_val h]
  by_cases h1 : valD r ≤ 9223372036854775808
  · rw [if_pos h1, if_pos (by omega), signed_small h1]
  · rw [if_neg h1]
    by_cases h2 : valD r < 18446744073709551616
    · rw [if_pos h2, signed_big h1]
    · rw [if_neg h2]; rfl
theorem readI_bad {l : List UInt8} (h : decB l = false) : readI l = (0, 4) := by unfold readI; rw [h]; rfl
theorem readI_zero : readI [48] = (0, 0) := by decide
theorem readI_itoa (n : Int) (h0 : -9223372036854775808 ≤ n) (h1 : n ≤ 9223372036854775807) : readI (Lib.itoa n) = (n, 0) := by
  by_cases hn : n < 0
  · obtain ⟨u, rfl⟩ : ∃ u : Nat, n = -(u : Int) := ⟨n.natAbs, by omega⟩
    rw [Lib.itoa_neg u (by omega), readI_minus (dec_digs u (by omega)), val_dec, if_pos (by omega)]
  · obtain ⟨u, rfl⟩ : ∃ u : Nat, n = u := ⟨n.toNat, by omega⟩
    rw [Lib.itoa_nonneg]
    by_cases hz : u = 0
    · subst hz; rw [Lib.decDigits, dif_pos (by omega)]; exact readI_zero
    · rw [readI_plain (dec_digs u (by omega)), val_dec, if_pos (by omega)]
theorem readI_back {l : List UInt8} {v : Int} (h : readI l = (v, 0)) : Lib.itoa v = l ∧ -9223372036854775808 ≤ v ∧ v ≤ 9223372036854775807 := by
  cases hd : decB l
  · rw [readI_bad hd] at h; injection h with _ h2; cases h2
  · have hd0 := hd
    unfold decB at hd
    rw [Bool.or_eq_true] at hd
    rcases hd with hz | hs
    · have e : l = [48] := by simpa using hz
      subst e
      rw [readI_zero] at h
      injection h with h1 _
      subst h1
      refine ⟨?_, by omega, by omega⟩
      rw [show (0 : Int) = ((0 : Nat) : Int) from rfl, Lib.itoa_nonneg, Lib.decDigits, dif_pos (by omega)]; rfl
    · cases l with
      | nil => cases hs
      | cons c r =>
        by_cases hc : c = 45
        · subst hc
          rw [strip_minus] at hs
          rw [readI_minus hs] at h
          obtain ⟨b1, b2⟩ := digs_back _ r rfl hs
          split at h
          · injection h with h1 _
            subst h1
            exact ⟨by rw [Lib.itoa_neg _ b2, b1], by omega, by omega⟩
          · injection h with _ h2; cases h2
        · rw [strip_plain c r hc] at hs
          rw [readI_plain hs] at h
          obtain ⟨b1, b2⟩ := digs_back _ _ rfl hs
          split at h
          · injection h with h1 _
            subst h1
            exact ⟨by rw [Lib.itoa_nonneg, b1], by omega, by omega⟩
          · injection h with _ h2; cases h2
/-- a number, or out of range, or no form -/
theorem readI_cases (l : List UInt8) : (∃ v, readI l = (v, 0) ∧ Lib.itoa v = l ∧ -9223372036854775808 ≤ v ∧ v ≤ 9223372036854775807) ∨ readI l = (0, 27) ∨ readI l = (0, 4) := by
  cases hd : decB l
  · exact .inr (.inr (readI_bad hd))
  · rcases dec_atoi hd with ⟨v, ha⟩ | ha
    · have h : readI l = (v, 0) := by unfold readI; rw [hd, ha]; rfl
      exact .inl ⟨v, h, readI_back h⟩
    · exact .inr (.inl (by unfold readI; rw [hd, ha]; rfl))

end Go.Proofs.YtclfjdnemafmeaaGreatDoor
end

section
/-
  Contracts of codec.plain and codec.Escape, and of the specification's. Condition: at most 1000000000 bytes.
-/
set_option maxRecDepth 100000
set_option linter.unusedVariables false
set_option linter.unusedSimpArgs false
set_option linter.unnecessarySimpa false
namespace Go.Proofs.YtclfjdnemafmeaaGreatDoor
open Go.RowKit Go.PlainAid

end Go.Proofs.YtclfjdnemafmeaaGreatDoor
end

section
/-
  Contracts of the specification's plain and Escape. Condition: at most 1000000000 bytes.
-/
set_option maxRecDepth 100000
set_option linter.unusedVariables false
set_option linter.unusedSimpArgs false
set_option linter.unnecessarySimpa false
namespace Go.Proofs.YtclfjdnemafmeaaGreatDoor
open Go.RowKit Go.PlainAid

end Go.Proofs.YtclfjdnemafmeaaGreatDoor
end
