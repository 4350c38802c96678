/-
  Texts of the schema layer and of those beneath it, joined: CodecB, ShelfB, CodecBuild, CodecStr, CodecC, CodecEsc, CodecREsc, NamL. Conditions stand at each contract.
-/
import Derived.Lib.Bytealg
import Derived.Lib.Builder
import Derived.Lib.AppendStr
import Derived.Laws.Externs
import Derived.Deep.RegionHeld3
import Derived.Deep.AppendLies
import Derived.Test.YtbkignlbcneddaaGreatDoorX01
import Derived.Test.YtbkignlbcneddaaGreatDoorX04
set_option linter.unusedVariables false
set_option linter.unusedSimpArgs false
set_option linter.unnecessarySimpa false

section
/-
  Plain functions for reading escaped forms. No condition.
-/
set_option maxRecDepth 100000
namespace Go.Proofs.YtbkignlbcneddaaGreatDoor
open Go.PlainAid
/-- the value of a hexadecimal digit, or -1 -/
def hexV (c : UInt8) : Int := Lib.indexByte hexS.data.toList c
theorem hexV_range : ∀ n : Nat, n < 256 → -1 ≤ hexV (UInt8.ofNat n) ∧ hexV (UInt8.ofNat n) ≤ 15 := by decide +kernel
theorem hexV_le (c : UInt8) : -1 ≤ hexV c ∧ hexV c ≤ 15 := by
  have := hexV_range c.toNat c.toNat_lt
  rwa [UInt8.ofNat_toNat] at this
/-- the byte with two hexadecimal digits, unless it stands as it is -/
def decC (a b : UInt8) : Option UInt8 :=
  if hexV a < 0 ∨ hexV b < 0 then none else if plainI (16 * hexV a + hexV b) then none else some (UInt8.ofNat (16 * hexV a + hexV b).toNat)
def unesc : List UInt8 → Option (List UInt8)
  | [] => some []
  | c :: r => if c = 37 then (match r with
      | a :: b :: r' => match decC a b with
        | some d => (unesc r').map (d :: ·)
        | none => none
      | _ => none) else if plainC c then (unesc r).map (c :: ·) else none
/-- what 'escaped' returns -/
def escO (t : ByteArray) : Option UInt8 := if t.size < 2 then none else decC (chr t 0) (chr t 1)
theorem drop_chr (s : ByteArray) (i : Nat) (h : i < s.size) : s.data.toList.drop i = chr s i :: s.data.toList.drop (i + 1) := by
  unfold chr
  rw [List.getD_eq_getElem?_getD, List.getElem?_eq_getElem (by simpa using h)]
  exact List.drop_eq_getElem_cons (by simpa using h)
theorem chr_dr (s : ByteArray) (i j : Nat) : chr (dr s i) j = chr s (i + j) := by
  unfold chr dr
  rw [List.toList_toArray, List.getD_eq_getElem?_getD, List.getD_eq_getElem?_getD, List.getElem?_drop]
theorem unesc_pct (s : ByteArray) (i : Nat) (h : i < s.size) (h37 : chr s i = 37) : unesc (s.data.toList.drop i) = match escO (dr s (i + 1)) with
    | some d => (unesc (s.data.toList.drop (i + 3))).map (d :: ·)
    | none => none := by
  rw [drop_chr s i h]
  conv => lhs; unfold unesc
  rw [if_pos h37]
  unfold escO
  rw [dr_size]
  by_cases h2 : s.size - (i + 1) < 2
  · rw [if_pos h2]
    have hl : (s.data.toList.drop (i + 1)).length < 2 := by rw [List.length_drop, ← Lib.size_eq]; exact h2
    match e : s.data.toList.drop (i + 1), hl with
    | [], _ => rfl
    | [x], _ => rfl
  · rw [if_neg h2, drop_chr s (i + 1) (by omega), drop_chr s (i + 1 + 1) (by omega), chr_dr, chr_dr]
end Go.Proofs.YtbkignlbcneddaaGreatDoor
end

section
/-
  The shelf of this seat lies in one text. No condition.
-/
namespace Go.Proofs.YtbkignlbcneddaaGreatDoor
end Go.Proofs.YtbkignlbcneddaaGreatDoor
end

section
/-
  Contracts of strings.Builder as this program's translation has it: copyCheck, WriteByte, WriteString, String, at a builder that the call itself made. Condition: at most 2^47 bytes.
-/
set_option maxRecDepth 100000
namespace Go.Proofs.YtbkignlbcneddaaGreatDoor
open Go.RowKit Go.PlainAid
theorem bsize : (Tryz.prog.info? 81).map (·.size) = some 2 := by kernel_rfl
theorem blies : liesAt Tryz.prog Tryz.prog.depth 81 (2 / Tryz.prog.cellsOf 81) 0 81 1 = true := by kernel_rfl
set_option maxHeartbeats 1000000 in
set_option maxRecDepth 100000 in
/-- a builder that was written before -/
theorem check_used (b : Nat) (w : World) (h0 : w.cell? ⟨b, 0, none⟩ = some (.pointer (some ⟨b, 0, none⟩))) :
    Calls Tryz.prog 106 #[.pointer (some ⟨b, 0, none⟩)] w fun e w' => e = .returned (.tuple #[]) ∧ w' = w := by
  obtain ⟨j, hj, _⟩ := Option.map_eq_some_iff.1 bsize
  go_enter Tryz.func106, Tryz.ntmps106
  go_wp2
  rw [Lib.run_neq_ptr_same w _ Tryz.underlying78 hj]
  go_wp2
  go_end0
  exact ⟨rfl, rfl⟩
set_option maxHeartbeats 1000000 in
set_option maxRecDepth 100000 in
/-- a fresh one: it notes its own address -/
theorem check_fresh (b : Nat) (w : World) (h0 : w.cell? ⟨b, 0, none⟩ = some (.pointer none)) (hsh : w.shape? b = some (81, 2)) (hfz : w.frozen? ⟨b, 0, none⟩ = false) :
    Calls Tryz.prog 106 #[.pointer (some ⟨b, 0, none⟩)] w fun e w' => e = .returned (.tuple #[]) ∧ w' = w.setCell ⟨b, 0, none⟩ (.pointer (some ⟨b, 0, none⟩)) := by
  obtain ⟨j, hj, hjs⟩ := Option.map_eq_some_iff.1 bsize
  go_enter Tryz.func106, Tryz.ntmps106
  go_wp2
  rw [Lib.run_to_unsafe w ⟨b, 0, none⟩ Tryz.underlying78 Tryz.underlying165 hj (by rw [hjs]; decide) hsh (Nat.zero_lt_succ 1)]
  simp only [Result.andThen]
  rw [Oper.upon_value]
  go_wp2
  rw [run_callFunc_extern Tryz.func143 (by kernel_rfl) (by kernel_rfl) (by kernel_rfl) (e := Extern.AbiNoEscape.same) (by kernel_rfl)]
  rw [Lib.run_noEscape]
  simp only [Result.andThen]
  rw [Oper.upon_value]
  go_wp2
  rw [Lib.run_from_unsafe w ⟨b, 0, none⟩ Tryz.underlying165 Tryz.underlying78 hj hsh blies]
  simp only [Result.andThen]
  rw [Oper.upon_value]
  go_wp2
  go_end0
  exact ⟨rfl, rfl⟩
/-- a builder of the call's own that holds the bytes l -/
def Bld (B b : Nat) (l : List UInt8) (w : World) : Prop := Lib.IsBuilder 81 5 B b (bcells l) w
theorem check_any (B b : Nat) (bs : List Value) (w : World) (h : Lib.IsBuilder 81 5 B b bs w) :
    Calls Tryz.prog 106 #[.pointer (some ⟨b, 0, none⟩)] w fun e w' => e = .returned (.tuple #[]) ∧ (Lib.BuilderAt 81 5 B b (.pointer (some ⟨b, 0, none⟩)) bs w' ∧ Below B w w') := by
  rcases h with h | h
  · refine (check_fresh b w h.cell0 h.shape h.frozen0).mono ?_
    rintro e w' ⟨rfl, rfl⟩
    exact ⟨rfl, h.used _, (Below.refl B w).setCell (p := ⟨b, 0, none⟩) h.1 _⟩
  · refine (check_used b w h.cell0).mono ?_
    rintro e w' ⟨rfl, rfl⟩
    exact ⟨rfl, h, Below.refl B _⟩
/-- 'b = append(b, c)' as push_byte, telling what has grown -/
theorem push_byte_g {ops : Array Oper} {rest : List Oper} {o : Oper} {a : Act} {Q : Exit → Act → World → Prop} (wr : World) {base : Nat} {v : Value} {n : Nat} {xs : List Value} (hown : wr.ownsRow base 5 1 v n xs) (s x : Operand)
    (c : Int) (hgd : o.guard = none)
    (ho : o.op = .call { callee := .builtin .append, args := #[s, x], argTypes := #[79, 79] })
    (hs : a.eval s = v) (hx : a.eval x = .slice (some ⟨wr.heap.size, 0, none⟩) 1 1) (hn : n + 1 ≤ 140737488355328) (hbase : base ≤ wr.heap.size)
    (h : ∀ v' w', w'.ownsRow base 5 1 v' (n + 1) (xs ++ [.int .u8 c]) → (wr.alloc (.cells #[.int .u8 c] 5)).grownBy w' v.ownBlock → wpList Tryz.prog ops Q rest (a.put o.dst v') w') :
    wpList Tryz.prog ops Q (o :: rest) a (wr.alloc (.cells #[.int .u8 c] 5)) := by
  obtain ⟨i0, hi, hz0, hz1, hz2⟩ := info_parts info5
  refine wpList_append_own _ hgd s x 79 ho base 5 i0 (.int .u8 0) 1 1 Tryz.underlying79 hi hz0 hz1 hz2 rfl (by decide) v n xs hs (hown.alloc _) ⟨wr.heap.size, 0, none⟩ 1 1 [.int .u8 c] hx rfl
    (cell_one_new _ _ _) (by intro u hu; simp at hu; subst hu; rfl) (by unfold maxLen; omega) (by omega) (by simp; omega) ?_
  intro v' w' h1 h2 _
  exact h v' w' h1 h2
set_option maxHeartbeats 2000000 in
set_option maxRecDepth 100000 in
theorem writeByte_cells (B b : Nat) (bs : List Value) (c : Int) (w : World) (h : Lib.IsBuilder 81 5 B b bs w) (hlen : bs.length + 1 ≤ 140737488355328) (hBw : B ≤ w.heap.size) :
    Calls Tryz.prog 62 #[.pointer (some ⟨b, 0, none⟩), .int .u8 c] w fun e w' => e = .returned .nilIface ∧ (Lib.BuilderAt 81 5 B b (.pointer (some ⟨b, 0, none⟩)) (bs ++ [.int .u8 c]) w' ∧ Below B w w') := by
  go_enter Tryz.func62, Tryz.ntmps62
  go_wp2_with (go_at_call 106; refine (check_any B b bs _ h).mono ?_)
  rintro e w1 ⟨rfl, h1, hb1⟩
  obtain ⟨hB, v, hbk, hown, hne⟩ := h1
  have c1 : w1.cell? ⟨b, 1, none⟩ = some v := by rw [Lib.cell_of_heap hbk]; rfl
  have HZ := hb1.size
  go_wp2_with (at_builtin; refine push_byte_g w1 hown (.tmp 11) (.tmp 13) _ ?_ ?_ ?_ ?_ ?_ ?_ ?_; exact rfl; exact rfl; exact rfl; exact rfl; omega; omega)
  intro v' w2 hown' hgrow
  have hlt : b < w1.heap.size := by
    rcases Nat.lt_or_ge b w1.heap.size with h' | h'
    · exact h'
    · simp [Array.getElem?_eq_none h'] at hbk
  have hb2 : w2.heap[b]? = some (.cells #[.pointer (some ⟨b, 0, none⟩), v] 81 (0, 0)) := by
    rw [hgrow.block b (by simp; omega) (fun e => hne e.symm), Lib.alloc_old w1 _ b hlt]
    exact hbk
  have d1 : w2.cell? ⟨b, 1, none⟩ = some v := by rw [Lib.cell_of_heap hb2]; rfl
  have f1 : w2.frozen? ⟨b, 1, none⟩ = false := Lib.frozen_of_heap hb2 1
  obtain ⟨g, cap, rfl⟩ : ∃ g cap, v' = .slice (some ⟨g, 0, none⟩) (bs.length + 1) cap := by
    rcases hown'.2 with ⟨_, h0⟩ | ⟨g, cap, cur, hv, _⟩
    · omega
    · exact ⟨g, cap, hv⟩
  go_wp2
  go_ret
  refine ⟨rfl, ?_, ?_⟩
  · exact Lib.BuilderAt.put (T := 81) (e := 5) hB hb2 (bs' := bs ++ [.int .u8 c]) (by simpa using hown') (by decide)
  · exact ((hb1.alloc (by omega) _).grown hgrow (by simp; omega) (fun k hk => (hown.lt k hk).1)).setCell (p := ⟨b, 1, none⟩) hB _
/-- WriteByte at a builder that holds the bytes l -/
theorem writeByte_s (B b : Nat) (l : List UInt8) (c : UInt8) (x : Int) (w : World) (h : Bld B b l w) (hx : x = (c.toNat : Int)) (hlen : l.length ≤ 100000000000) (hBw : B ≤ w.heap.size) :
    Calls Tryz.prog 62 #[.pointer (some ⟨b, 0, none⟩), .int .u8 x] w fun e w' => e = .returned .nilIface ∧ Bld B b (l ++ [c]) w' ∧ Below B w w' := by
  subst hx
  refine (writeByte_cells B b (bcells l) c.toNat w h (by rw [bcells_length]; omega) hBw).mono fun e w' h => ⟨h.1, ?_, h.2.2⟩
  unfold Bld
  rw [bcells_append]
  exact .inr h.2.1
/-- String at a builder that holds the bytes l -/
theorem string_s (B b : Nat) (l : List UInt8) (w : World) (h : Bld B b l w) (hBw : B ≤ w.heap.size) :
    Calls Tryz.prog 63 #[.pointer (some ⟨b, 0, none⟩)] w fun e w' => e = .returned (.string ⟨l.toArray⟩) ∧ Below B w w' :=
  (Tryz.Builder_String_any B b l w h hBw).mono fun e w' h => ⟨h.1, h.2⟩
/-- a fresh builder -/
theorem bld_new (w : World) : Bld w.heap.size w.heap.size [] (w.alloc (.cells #[.pointer none, .slice none 0 0] 81)) := Lib.fresh_isBuilder _ _ w
theorem Bld.below {B b : Nat} {l : List UInt8} {w w' : World} (h : Bld B b l w) (hb : Below w.heap.size w w') : Bld B b l w' := by
  have one : ∀ p, Lib.BuilderAt 81 5 B b p (bcells l) w → Lib.BuilderAt 81 5 B b p (bcells l) w' := fun p h => by
    have hl := h.lt
    obtain ⟨hB, v, hbk, hown, hne⟩ := h
    refine ⟨hB, v, by rw [hb.block b hl]; exact hbk, ?_, hne⟩
    exact hown.kept (row := none) ⟨hb.os, hb.tape, hb.output, hb.size, fun k hk _ => hb.block k hk⟩ (by
      cases h : v.ownBlock
      · exact .inl rfl
      · exact .inr (by simp))
  rcases h with h | h
  · exact .inl (one _ h)
  · exact .inr (one _ h)
end Go.Proofs.YtbkignlbcneddaaGreatDoor
end

section
/-
  The contract of strings.Builder's WriteString as this program's translation has it, at a builder that the call itself made. Condition: at most 2^46 bytes.
-/
set_option maxRecDepth 100000
namespace Go.Proofs.YtbkignlbcneddaaGreatDoor
open Go.RowKit Go.PlainAid
theorem strCells_b (s : ByteArray) : Lib.strCells s = bcells s.data.toList := rfl
set_option maxHeartbeats 2000000 in
set_option maxRecDepth 100000 in
theorem writeString_cells (B b : Nat) (bs : List Value) (s : ByteArray) (w : World) (h : Lib.IsBuilder 81 5 B b bs w) (hlen : bs.length + s.size ≤ 140737488355328) (hBw : B ≤ w.heap.size) :
    Calls Tryz.prog 61 #[.pointer (some ⟨b, 0, none⟩), .string s] w fun e w' => e = .returned (.tuple #[.int .i64 s.size, .nilIface]) ∧ (Lib.BuilderAt 81 5 B b (.pointer (some ⟨b, 0, none⟩)) (bs ++ Lib.strCells s) w' ∧ Below B w w') := by
  obtain ⟨i0, hi, hz0, hz1, hz2⟩ := info_parts info5
  go_enter Tryz.func61, Tryz.ntmps61
  go_wp2_with (go_at_call 106; refine (check_any B b bs _ h).mono ?_)
  rintro e w1 ⟨rfl, h1, hb1⟩
  obtain ⟨hB, v, hbk, hown, hne⟩ := h1
  have c1 : w1.cell? ⟨b, 1, none⟩ = some v := by rw [Lib.cell_of_heap hbk]; rfl
  have HZ := hb1.size
  have hlt : b < w1.heap.size := by
    rcases Nat.lt_or_ge b w1.heap.size with h' | h'
    · exact h'
    · simp [Array.getElem?_eq_none h'] at hbk
  go_wp2_with (at_builtin; refine Lib.wpList_append_own_string w1 ?_ (.tmp 12) (.tmp 13) 79 9 ?_ B 5 i0 Tryz.underlying79 Tryz.underlying9 hi hz0 hz1 hz2 v bs.length bs ?_ hown s ?_ ?_ ?_ ?_ ?_; exact rfl; exact rfl; exact rfl; exact rfl; (unfold maxLen; omega); omega; omega)
  intro v' w2 hown' hgrow hnil
  have hb2 : w2.heap[b]? = some (.cells #[.pointer (some ⟨b, 0, none⟩), v] 81 (0, 0)) := by
    rw [hgrow.block b hlt (fun e => hne e.symm)]
    exact hbk
  have d1 : w2.cell? ⟨b, 1, none⟩ = some v := by rw [Lib.cell_of_heap hb2]; rfl
  have f1 : w2.frozen? ⟨b, 1, none⟩ = false := Lib.frozen_of_heap hb2 1
  have hlen' : (bs ++ Lib.strCells s).length = bs.length + s.size := by simp [Lib.strCells_length]
  have hbel : Below B w w2 := hb1.grown hgrow (by omega) (fun k hk => (hown.lt k hk).1)
  have hcase : v' = .slice none 0 0 ∨ ∃ g n cap, v' = .slice (some ⟨g, 0, none⟩) n cap := by
    rcases hown'.2 with ⟨h, h0⟩ | ⟨g, cap, cur, hv, _⟩
    · exact .inl h
    · exact .inr ⟨g, _, cap, hv⟩
  rcases hcase with rfl | ⟨g, n, cap, rfl⟩
  · go_wp2
    go_ret2
    refine ⟨rfl, ?_, hbel.setCell (p := ⟨b, 1, none⟩) hB _⟩
    exact Lib.BuilderAt.put (T := 81) (e := 5) hB hb2 (bs' := bs ++ Lib.strCells s) (by rw [hlen']; exact hown') (by decide)
  · go_wp2
    go_ret2
    refine ⟨rfl, ?_, hbel.setCell (p := ⟨b, 1, none⟩) hB _⟩
    exact Lib.BuilderAt.put (T := 81) (e := 5) hB hb2 (bs' := bs ++ Lib.strCells s) (by rw [hlen']; exact hown') (by decide)
/-- WriteString at a builder that holds the bytes l -/
theorem writeString_s (B b : Nat) (l : List UInt8) (s : ByteArray) (w : World) (h : Bld B b l w) (hlen : l.length + s.size ≤ 100000000000) (hBw : B ≤ w.heap.size) :
    Calls Tryz.prog 61 #[.pointer (some ⟨b, 0, none⟩), .string s] w fun e w' => e = .returned (.tuple #[.int .i64 s.size, .nilIface]) ∧ Bld B b (l ++ s.data.toList) w' ∧ Below B w w' := by
  refine (writeString_cells B b (bcells l) s w h (by rw [bcells_length]; omega) hBw).mono fun e w' h => ⟨h.1, ?_, h.2.2⟩
  unfold Bld
  rw [bcells_append, ← strCells_b]
  exact .inr h.2.1
end Go.Proofs.YtbkignlbcneddaaGreatDoor
end

section
/-
  Plain functions for the text forms of lists: the pieces between the bars, reading them, writing them. No condition.
-/
set_option maxRecDepth 100000
namespace Go.Proofs.YtbkignlbcneddaaGreatDoor
open Go.PlainAid
/-- the pieces between the bytes b -/
def pieces (b : UInt8) : List UInt8 → List (List UInt8)
  | [] => [[]]
  | c :: l => if c = b then [] :: pieces b l else match pieces b l with
    | p :: r => (c :: p) :: r
    | [] => [[c]]
theorem occ_one (l : List UInt8) (b : UInt8) (i : Nat) : Lib.occAt l [b] i = true ↔ l[i]? = some b := by
  unfold Lib.occAt
  rw [← List.head?_drop]
  cases l.drop i with
  | nil => simp
  | cons c m =>
    simp only [List.isPrefixOf, Bool.and_true, List.head?_cons, Option.some.injEq, beq_iff_eq]
    exact eq_comm
theorem pieces_hit (b : UInt8) : ∀ (l : List UInt8) (i : Nat), l[i]? = some b → (∀ j, j < i → l[j]? ≠ some b) → pieces b l = l.take i :: pieces b (l.drop (i + 1))
  | [], i, h, _ => by simp at h
  | c :: l, 0, h, _ => by
    have : c = b := by simpa using h
    conv => lhs; unfold pieces
    rw [if_pos this]; rfl
  | c :: l, i + 1, h, hn => by
    have hc : c ≠ b := fun e => hn 0 (by omega) (by rw [e]; rfl)
    have ih := pieces_hit b l i (by simpa using h) (fun j hj => by have := hn (j + 1) (by omega); simpa using this)
    conv => lhs; unfold pieces
    rw [if_neg hc, ih]
    rfl
theorem pieces_miss (b : UInt8) : ∀ (l : List UInt8), (∀ j : Nat, l[j]? ≠ some b) → pieces b l = [l]
  | [], _ => rfl
  | c :: l, hn => by
    have hc : c ≠ b := fun e => hn 0 (by rw [e]; rfl)
    have ih := pieces_miss b l (fun j => by have := hn (j + 1); simpa using this)
    unfold pieces
    rw [if_neg hc, ih]
/-- Cut at one byte -/
theorem cut_one (t : ByteArray) (b : UInt8) : (cutOk t ⟨#[b]⟩ = true ∧ pieces b t.data.toList = (cutBef t ⟨#[b]⟩).data.toList :: pieces b (cutAft t ⟨#[b]⟩).data.toList ∧ (cutAft t ⟨#[b]⟩).size < t.size ∧ (cutBef t ⟨#[b]⟩).size ≤ t.size ∧
      (∀ j : Nat, (cutBef t ⟨#[b]⟩).data.toList[j]? ≠ some b)) ∨
    (cutOk t ⟨#[b]⟩ = false ∧ pieces b t.data.toList = [t.data.toList] ∧ cutBef t ⟨#[b]⟩ = t ∧ cutAft t ⟨#[b]⟩ = ⟨#[]⟩) := by
  have e : (⟨#[b]⟩ : ByteArray).data.toList = [b] := rfl
  rcases Lib.index_spec t.data.toList [b] with ⟨hi, hn⟩ | ⟨i, hi, hle, ho, hno⟩
  · refine .inr ?_
    have hcut : Lib.cut t.data.toList (⟨#[b]⟩ : ByteArray).data.toList = (t.data.toList, [], false) := by
      unfold Lib.cut; rw [e, hi]; rfl
    refine ⟨by unfold cutOk; rw [hcut], ?_, ?_, ?_⟩
    · refine pieces_miss b _ (fun j hj => ?_)
      have hlt : j < t.data.toList.length := (List.getElem?_eq_some_iff.1 hj).1
      have := hn j (by omega)
      rw [(occ_one _ _ _).2 hj] at this
      cases this
    · unfold cutBef; rw [hcut]
    · unfold cutAft; rw [hcut]
  · refine .inl ?_
    have hget := (occ_one _ _ _).1 ho
    have hlt : i < t.data.toList.length := (List.getElem?_eq_some_iff.1 hget).1
    have hcut : Lib.cut t.data.toList (⟨#[b]⟩ : ByteArray).data.toList = (t.data.toList.take i, t.data.toList.drop (i + 1), true) := by
      unfold Lib.cut; rw [e, hi, if_pos (by omega)]; simp
    have hno' : ∀ j, j < i → t.data.toList[j]? ≠ some b := fun j hj h => by
      have := hno j hj
      rw [(occ_one _ _ _).2 h] at this
      cases this
    have eb : (cutBef t ⟨#[b]⟩).data.toList = t.data.toList.take i := by unfold cutBef; rw [hcut]
    have ea : (cutAft t ⟨#[b]⟩).data.toList = t.data.toList.drop (i + 1) := by unfold cutAft; rw [hcut]
    refine ⟨by unfold cutOk; rw [hcut], ?_, ?_, ?_, ?_⟩
    · rw [eb, ea]; exact pieces_hit b _ i hget hno'
    · rw [Lib.size_eq, Lib.size_eq t, ea, List.length_drop]; omega
    · rw [Lib.size_eq, Lib.size_eq t, eb, List.length_take]; omega
    · intro j hj
      rw [eb, List.getElem?_take] at hj
      by_cases h : j < i
      · rw [if_pos h] at hj; exact hno' j h hj
      · rw [if_neg h] at hj; cases hj
def ofL (l : List UInt8) : ByteArray := ⟨l.toArray⟩
theorem unesc_le (l : List UInt8) : ∀ m, unesc l = some m → m.length ≤ l.length := by
  intro m h
  induction hn : l.length using Nat.strongRecOn generalizing l m with
  | ind n ih =>
    cases l with
    | nil => unfold unesc at h; cases h; simp
    | cons c r =>
      unfold unesc at h
      by_cases hc : c = 37
      · rw [if_pos hc] at h
        match r, h, hn with
        | a :: b :: r', h, hn =>
          simp only [] at h
          split at h
          · obtain ⟨x, hx, rfl⟩ := Option.map_eq_some_iff.1 h
            have := ih r'.length (by simp at hn; omega) r' x hx rfl
            simp at hn ⊢; omega
          · cases h
        | [a], h, _ => cases h
        | [], h, _ => cases h
      · rw [if_neg hc] at h
        split at h
        · obtain ⟨x, hx, rfl⟩ := Option.map_eq_some_iff.1 h
          have := ih r.length (by simp at hn; omega) r x hx rfl
          simp at hn ⊢; omega
        · cases h
end Go.Proofs.YtbkignlbcneddaaGreatDoor
end

section
/-
  Contracts of codec.plain and codec.Escape, and of the specification's. Condition: at most 1000000000 bytes.
-/
set_option maxRecDepth 100000
namespace Go.Proofs.YtbkignlbcneddaaGreatDoor
open Go.RowKit Go.PlainAid
set_option maxHeartbeats 1000000 in
theorem plain_any (c : Int) (w : World) (h0 : 0 ≤ c) (h1 : c ≤ 255) :
    Calls Tryz.prog 129 #[.int .u8 c] w fun e w' => e = .returned (.bool (plainI c)) ∧ w = w' := by
  cases a1 : (c == 37)
  · cases a2 : (c == 124)
    · cases a3 : (c == 44)
      · cases a4 : (c == 61)
        · cases a5 : (c == 59)
          · cases a6 : (c == 34)
            · by_cases b1 : 33 ≤ c
              · by_cases b2 : c ≤ 126
                · have HE := Lib.hid (show plainI c = true by unfold plainI; rw [a1, a2, a3, a4, a5, a6]; simp [b1, b2])
                  have d2 : decide (c ≤ 126) = true := by simp [b2]
                  go_enter Tryz.func129, Tryz.ntmps129
                  go_wp2
                  go_ret
                  exact ⟨by rw [HE.out]; rfl, rfl⟩
                · have HE := Lib.hid (show plainI c = false by unfold plainI; simp [b2])
                  have d2 : decide (c ≤ 126) = false := by simp [b2]
                  go_enter Tryz.func129, Tryz.ntmps129
                  go_wp2
                  go_ret
                  exact ⟨by rw [HE.out]; rfl, rfl⟩
              · have HE := Lib.hid (show plainI c = false by unfold plainI; simp [b1])
                go_enter Tryz.func129, Tryz.ntmps129
                go_wp2
                go_ret
                exact ⟨by rw [HE.out]; rfl, rfl⟩
            · have HE := Lib.hid (show plainI c = false by unfold plainI; rw [a6]; simp)
              go_enter Tryz.func129, Tryz.ntmps129
              go_wp2
              go_ret
              exact ⟨by rw [HE.out]; rfl, rfl⟩
          · have HE := Lib.hid (show plainI c = false by unfold plainI; rw [a5]; simp)
            go_enter Tryz.func129, Tryz.ntmps129
            go_wp2
            go_ret
            exact ⟨by rw [HE.out]; rfl, rfl⟩
        · have HE := Lib.hid (show plainI c = false by unfold plainI; rw [a4]; simp)
          go_enter Tryz.func129, Tryz.ntmps129
          go_wp2
          go_ret
          exact ⟨by rw [HE.out]; rfl, rfl⟩
      · have HE := Lib.hid (show plainI c = false by unfold plainI; rw [a3]; simp)
        go_enter Tryz.func129, Tryz.ntmps129
        go_wp2
        go_ret
        exact ⟨by rw [HE.out]; rfl, rfl⟩
    · have HE := Lib.hid (show plainI c = false by unfold plainI; rw [a2]; simp)
      go_enter Tryz.func129, Tryz.ntmps129
      go_wp2
      go_ret
      exact ⟨by rw [HE.out]; rfl, rfl⟩
  · have HE := Lib.hid (show plainI c = false by unfold plainI; rw [a1]; simp)
    go_enter Tryz.func129, Tryz.ntmps129
    go_wp2
    go_ret
    exact ⟨by rw [HE.out]; rfl, rfl⟩
set_option maxRecDepth 100000 in
set_option maxHeartbeats 2000000 in
theorem escape_any (s : ByteArray) (w : World) (hs : s.size ≤ 1000000000) :
    Calls Tryz.prog 89 #[.string s] w fun e w' => e = .returned (.string ⟨(escL s.data.toList).toArray⟩) ∧ Below w.heap.size w w' := by
  have hb := get_bt s
  have hx := get_bt (⟨#[48, 49, 50, 51, 52, 53, 54, 55, 56, 57, 65, 66, 67, 68, 69, 70]⟩ : ByteArray)
  have HN := Lib.hid (bld_new w)
  go_enter Tryz.func89, Tryz.ntmps89
  go_wp2
  go_loopw [7] (fun i wr => ∃ k : Nat, k ≤ s.size ∧ i = .int .i64 k ∧ Bld w.heap.size w.heap.size (escL (s.data.toList.take k)) wr ∧ Below w.heap.size w wr ∧ w.heap.size < wr.heap.size)
    (fun i _ => s.size - (intOf i).toNat)
  case atStart => exact ⟨0, Nat.zero_le _, rfl, HN.out, (Below.refl _ _).alloc (Nat.le_refl _) _, by simp⟩
  case round =>
    obtain ⟨k, hk, rfl, HB, hbel, hsz⟩ := hrel
    have h0 := bt_nonneg s k
    have h255 := bt_le s k
    have hl3 := escL_length (s.data.toList.take k)
    have hl4 : (s.data.toList.take k).length ≤ k := List.length_take_le _ _
    have HC := Lib.hid (bt_chr s k)
    by_cases hlt : k < s.size
    · have HST := Lib.hid (esc_step s k hlt)
      have HP := Lib.hid (plain_chr s k)
      cases c1 : plainI (bt s k)
      · have HST2 := Lib.hid (show escL (s.data.toList.take (k + 1)) = ((escL (s.data.toList.take k) ++ [37]) ++ [hexC ((chr s k).toNat / 16)]) ++ [hexC ((chr s k).toNat % 16)] by
          rw [HST.out, escC_other _ (by rw [HP.out, c1])]; simp)
        go_wp2_with (go_at_call 129; refine (plain_any _ _ h0 h255).mono ?_; rintro e w' ⟨rfl, rfl⟩)
        refine (writeByte_s w.heap.size w.heap.size _ 37 37 _ HB rfl (by omega) hbel.size).mono ?_
        rintro e w1 ⟨rfl, HB1, hb1⟩
        go_wp2_with fail
        refine (writeByte_s w.heap.size w.heap.size _ (hexC ((chr s k).toNat / 16)) _ _ HB1 (hex_hi _ _ HC.out) (by simp; omega) (Nat.le_trans hbel.size hb1.size)).mono ?_
        rintro e w2 ⟨rfl, HB2, hb2⟩
        go_wp2_with fail
        refine (writeByte_s w.heap.size w.heap.size _ (hexC ((chr s k).toNat % 16)) _ _ HB2 (hex_lo _ _ HC.out) (by simp; omega) (Nat.le_trans hbel.size (Nat.le_trans hb1.size hb2.size))).mono ?_
        rintro e w3 ⟨rfl, HB3, hb3⟩
        have hbel3 := hbel.trans (hb1.trans (hb2.trans hb3))
        go_wp2
        go_roundw
        case rel => exact ⟨k + 1, by omega, by go_num, by rw [HST2.out]; exact HB3, hbel3, Nat.lt_of_lt_of_le hsz (Nat.le_trans hb1.size (Nat.le_trans hb2.size hb3.size))⟩
        case measure => simp [intOf]; omega
      · have HST2 := Lib.hid (show escL (s.data.toList.take (k + 1)) = escL (s.data.toList.take k) ++ [chr s k] by
          rw [HST.out, escC_plain _ (by rw [HP.out, c1])])
        go_wp2_with (go_at_call 129; refine (plain_any _ _ h0 h255).mono ?_; rintro e w' ⟨rfl, rfl⟩)
        refine (writeByte_s w.heap.size w.heap.size _ (chr s k) _ _ HB HC.out (by omega) hbel.size).mono ?_
        rintro e w1 ⟨rfl, HB1, hb1⟩
        go_wp2
        go_roundw
        case rel => exact ⟨k + 1, by omega, by go_num, by rw [HST2.out]; exact HB1, hbel.trans hb1, Nat.lt_of_lt_of_le hsz hb1.size⟩
        case measure => simp [intOf]; omega
    · have HT := Lib.hid (show s.data.toList.take k = s.data.toList by rw [List.take_of_length_le]; simp; omega)
      rw [HT.out] at HB
      go_wp2_with (go_at_call 63; refine (string_s w.heap.size w.heap.size _ _ HB hbel.size).mono ?_; rintro e w1 ⟨rfl, hb1⟩)
      go_ret
      exact ⟨rfl, hbel.trans hb1⟩
end Go.Proofs.YtbkignlbcneddaaGreatDoor
end

section
/-
  Contracts of the specification's plain and Escape. Condition: at most 1000000000 bytes.
-/
set_option maxRecDepth 100000
namespace Go.Proofs.YtbkignlbcneddaaGreatDoor
open Go.RowKit Go.PlainAid
set_option maxHeartbeats 1000000 in
theorem rplain_any (c : Int) (w : World) (h0 : 0 ≤ c) (h1 : c ≤ 255) :
    Calls Tryz.prog 92 #[.int .u8 c] w fun e w' => e = .returned (.bool (plainI c)) ∧ w = w' := by
  by_cases b1 : 33 ≤ c
  · by_cases b2 : c ≤ 126
    · by_cases n0 : c = 37
      · subst n0
        have HE := Lib.hid (show plainI 37 = false by decide)
        go_enter Tryz.func92, Tryz.ntmps92
        go_wp2
        go_ret
        exact ⟨by rw [HE.out]; rfl, rfl⟩
      · have m0 : (c == 37) = false := by simpa using n0
        have q0 : (c != 37) = true := by simpa using n0
        by_cases n1 : c = 124
        · subst n1
          have HE := Lib.hid (show plainI 124 = false by decide)
          go_enter Tryz.func92, Tryz.ntmps92
          go_wp2
          go_ret
          exact ⟨by rw [HE.out]; rfl, rfl⟩
        · have m1 : (c == 124) = false := by simpa using n1
          have q1 : (c != 124) = true := by simpa using n1
          by_cases n2 : c = 44
          · subst n2
            have HE := Lib.hid (show plainI 44 = false by decide)
            go_enter Tryz.func92, Tryz.ntmps92
            go_wp2
            go_ret
            exact ⟨by rw [HE.out]; rfl, rfl⟩
          · have m2 : (c == 44) = false := by simpa using n2
            have q2 : (c != 44) = true := by simpa using n2
            by_cases n3 : c = 61
            · subst n3
              have HE := Lib.hid (show plainI 61 = false by decide)
              go_enter Tryz.func92, Tryz.ntmps92
              go_wp2
              go_ret
              exact ⟨by rw [HE.out]; rfl, rfl⟩
            · have m3 : (c == 61) = false := by simpa using n3
              have q3 : (c != 61) = true := by simpa using n3
              by_cases n4 : c = 59
              · subst n4
                have HE := Lib.hid (show plainI 59 = false by decide)
                go_enter Tryz.func92, Tryz.ntmps92
                go_wp2
                go_ret
                exact ⟨by rw [HE.out]; rfl, rfl⟩
              · have m4 : (c == 59) = false := by simpa using n4
                have q4 : (c != 59) = true := by simpa using n4
                by_cases n5 : c = 34
                · subst n5
                  have HE := Lib.hid (show plainI 34 = false by decide)
                  go_enter Tryz.func92, Tryz.ntmps92
                  go_wp2
                  go_ret
                  exact ⟨by rw [HE.out]; rfl, rfl⟩
                · have m5 : (c == 34) = false := by simpa using n5
                  have q5 : (c != 34) = true := by simpa using n5
                  have HE := Lib.hid (show plainI c = true by unfold plainI; rw [m0, m1, m2, m3, m4, m5]; simp [b1, b2])
                  go_enter Tryz.func92, Tryz.ntmps92
                  go_wp2
                  go_ret
                  exact ⟨by rw [HE.out]; rfl, rfl⟩
    · have HE := Lib.hid (show plainI c = false by unfold plainI; simp [b2])
      go_enter Tryz.func92, Tryz.ntmps92
      go_wp2
      go_ret
      exact ⟨by rw [HE.out]; rfl, rfl⟩
  · have HE := Lib.hid (show plainI c = false by unfold plainI; simp [b1])
    go_enter Tryz.func92, Tryz.ntmps92
    go_wp2
    go_ret
    exact ⟨by rw [HE.out]; rfl, rfl⟩
set_option maxRecDepth 100000 in
set_option maxHeartbeats 2000000 in
theorem rescape_any (s : ByteArray) (w : World) (hs : s.size ≤ 1000000000) :
    Calls Tryz.prog 45 #[.string s] w fun e w' => e = .returned (.string ⟨(escL s.data.toList).toArray⟩) ∧ Below w.heap.size w w' := by
  have hb := get_bt s
  have hx := get_bt (⟨#[48, 49, 50, 51, 52, 53, 54, 55, 56, 57, 65, 66, 67, 68, 69, 70]⟩ : ByteArray)
  go_enter Tryz.func45, Tryz.ntmps45
  go_wp2
  go_loopw [3, 4] (fun b i wr => ∃ k : Nat, k ≤ s.size ∧ i = .int .i64 k ∧ wr.ownsRow w.heap.size 5 1 b (escL (s.data.toList.take k)).length (bcells (escL (s.data.toList.take k))) ∧ Below w.heap.size w wr)
    (fun _ i _ => s.size - (intOf i).toNat)
  case atStart => exact ⟨0, Nat.zero_le _, rfl, World.ownsRow_nil _ _ _ _, Below.refl _ _⟩
  case round =>
    obtain ⟨k, hk, rfl, hown, hbel⟩ := hrel
    have h0 := bt_nonneg s k
    have h255 := bt_le s k
    have hl3 := escL_length (s.data.toList.take k)
    have hl4 : (s.data.toList.take k).length ≤ k := List.length_take_le _ _
    have HC := Lib.hid (bt_chr s k)
    by_cases hlt : k < s.size
    · have HST := Lib.hid (esc_step s k hlt)
      have HP := Lib.hid (plain_chr s k)
      cases c1 : plainI (bt s k)
      · go_wp2_with (go_at_call 92; refine (rplain_any _ _ h0 h255).mono ?_; rintro e w' ⟨rfl, rfl⟩)
        obtain ⟨i0, hi0, hz0, hz1, hz2⟩ := info_parts info5
        have k1 : (0 : Int) ≤ (k : Int) := by omega
        have k2 : (k : Int) < (s.size : Int) := by omega
        have t1 : IntKind.u8.wrap ((bt s k).tdiv 16) = bt s k / 16 := by rw [Int.tdiv_eq_ediv_of_nonneg h0]; exact IntWalk.u8_in _ (by omega)
        have t2 : IntKind.u8.wrap ((bt s k).tmod 16) = bt s k % 16 := by rw [Int.tmod_eq_emod_of_nonneg h0]; exact IntWalk.u8_in _ (by omega)
        have t3 : (bt s k).tmod 16 = bt s k % 16 := Int.tmod_eq_emod_of_nonneg h0
        have t4 : IntKind.u8.wrap (bt s k % 16) = bt s k % 16 := IntWalk.u8_in _ (by omega)
        have q1 : (0 : Int) ≤ bt s k / 16 := by omega
        have q2 : bt s k / 16 < 16 := by omega
        have q3 : (0 : Int) ≤ bt s k % 16 := by omega
        have q4 : bt s k % 16 < 16 := by omega
        go_region_held3 (fun _ => True) (trivial)
          ((refine step_append_lies _ (by rfl) _ _ _ (by rfl) w.heap.size 5 i0 _ 1 1 Tryz.underlying79 hi0 hz0 hz1 hz2 rfl (by omega) _ _ _ (by rfl) ((hown.alloc _).drew)
                ⟨wr.heap.size, 0, none⟩ 3 3 _ (by rfl) (by rfl) (World.news_of_block (heap_alloc_new wr _)) (by simp [Value.oneCell'])
                (by omega) (by unfold maxLen; omega) (by omega) (by have := hbel.size; simp; omega) (wr.heap.size + 1) (by simp) ?_; intro gg cap w1 hown1 hgrow hat hlt))
        all_goals
          go_wp2
          have hbel1 : Below w.heap.size w w1 := (((hbel.alloc hbel.size _).drew).grown hgrow (by have := hbel.size; simp; omega) (fun j hj => (hown.lt j hj).1))
          have HST2 := Lib.hid (show escL (s.data.toList.take (k + 1)) = escL (s.data.toList.take k) ++ [37, hexC ((chr s k).toNat / 16), hexC ((chr s k).toNat % 16)] by
            rw [HST.out, escC_other _ (by rw [HP.out, c1])])
          go_roundw
          case rel =>
            refine ⟨k + 1, by omega, by go_num, ?_, hbel1⟩
            rw [HST2.out, List.length_append, bcells_append]
            rw [hex_hi _ _ HC.out, hex_lo _ _ HC.out] at hown1
            exact hown1
          case measure => simp [intOf]; omega
      · have HST2 := Lib.hid (show escL (s.data.toList.take (k + 1)) = escL (s.data.toList.take k) ++ [chr s k] by
          rw [HST.out, escC_plain _ (by rw [HP.out, c1])])
        go_wp2_with (first
          | (go_at_call 92; refine (rplain_any _ _ h0 h255).mono ?_; rintro e w' ⟨rfl, rfl⟩)
          | (at_builtin; go_must (refine push_byte wr hown (.tmp 15) (.tmp 19) _ ?_ ?_ ?_ ?_ ?_ ?_ ?_; exact rfl; exact rfl; exact rfl; exact rfl; omega; exact hbel.size; intro v' w1 hown1 hb1)))
        go_roundw
        case rel => exact ⟨k + 1, by omega, by go_num, by rw [HST2.out, List.length_append, bcells_append]; rw [HC.out] at hown1; exact hown1, hbel.trans hb1⟩
        case measure => simp [intOf]; omega
    · have HT := Lib.hid (show s.data.toList.take k = s.data.toList by rw [List.take_of_length_le]; simp; omega)
      have hbk := back (l := escL s.data.toList) (by rw [HT.out] at hown; exact hown)
      go_wp2
      go_ret
      exact ⟨rfl, hbel⟩
end Go.Proofs.YtbkignlbcneddaaGreatDoor
end

section
/-
  Plain functions for distinguished names on lists of bytes: where a separator stands that is not escaped, the pieces of a text, the value that is written, the text of a component. No condition.
-/
set_option maxRecDepth 100000
namespace Go.Proofs.YtbkignlbcneddaaGreatDoor
namespace Nam
open Go.PlainAid
def spec4 (c : UInt8) : Bool := c == 44 || c == 61 || c == 43 || c == 92
/-- where the first c that is not escaped stands, or the length -/
def nextP (c : UInt8) : List UInt8 → Nat
  | [] => 0
  | x :: r => if x = c then 0 else if x = 92 then (match r with
      | [] => 1
      | _ :: r' => nextP c r' + 2) else nextP c r + 1
/-- the value that is written as a piece, unless it is in no right form -/
def valP : List UInt8 → Option (List UInt8)
  | [] => some []
  | x :: r => if x = 92 then (match r with
      | [] => none
      | y :: r' => if spec4 y then (valP r').map (y :: ·) else none) else if x = 61 ∨ x = 43 then none else (valP r).map (x :: ·)
/-- the same, where a comma that is not escaped is refused, too -/
def valQ : List UInt8 → Option (List UInt8)
  | [] => some []
  | x :: r => if x = 92 then (match r with
      | [] => none
      | y :: r' => if spec4 y then (valQ r').map (y :: ·) else none) else if spec4 x then none else (valQ r).map (x :: ·)
def escB (c : UInt8) : List UInt8 := if spec4 c then [92, c] else [c]
def escV (l : List UInt8) : List UInt8 := l.flatMap escB
/-- no c that is not escaped, and no escape at the end -/
def clos (c : UInt8) : List UInt8 → Bool
  | [] => true
  | x :: r => if x = c then false else if x = 92 then (match r with
      | [] => false
      | _ :: r' => clos c r') else clos c r
/-- no c that is not escaped -/
def nocut (c : UInt8) (l : List UInt8) : Prop := nextP c l = l.length
theorem nextP_le (c : UInt8) : ∀ l, nextP c l ≤ l.length
  | [] => Nat.le_refl _
  | [x] => by
    unfold nextP
    by_cases h : x = c
    · rw [if_pos h]; exact Nat.zero_le _
    · rw [if_neg h]
      by_cases h2 : x = 92
      · rw [if_pos h2]; exact Nat.le_refl _
      · rw [if_neg h2]; simp [nextP]
  | x :: y :: r => by
    unfold nextP
    by_cases h : x = c
    · rw [if_pos h]; exact Nat.zero_le _
    · rw [if_neg h]
      by_cases h2 : x = 92
      · rw [if_pos h2]; have := nextP_le c r; simp; exact this
      · rw [if_neg h2]; have := nextP_le c (y :: r); simp at this ⊢; exact this
theorem nextP_clos (c : UInt8) (b : List UInt8) : ∀ a, clos c a = true → nextP c (a ++ b) = a.length + nextP c b
  | [], _ => by simp
  | [x], h => by
    unfold clos at h
    by_cases h1 : x = c
    · rw [if_pos h1] at h; cases h
    · rw [if_neg h1] at h
      by_cases h2 : x = 92
      · rw [if_pos h2] at h; cases h
      · show nextP c (x :: b) = _
        rw [show nextP c (x :: b) = nextP c b + 1 by conv => lhs; unfold nextP; rw [if_neg h1, if_neg h2]]
        simp; omega
  | x :: y :: r, h => by
    unfold clos at h
    by_cases h1 : x = c
    · rw [if_pos h1] at h; cases h
    · rw [if_neg h1] at h
      by_cases h2 : x = 92
      · rw [if_pos h2] at h
        have := nextP_clos c b r h
        show nextP c (x :: y :: (r ++ b)) = _
        rw [show nextP c (x :: y :: (r ++ b)) = nextP c (r ++ b) + 2 by conv => lhs; unfold nextP; rw [if_neg h1, if_pos h2], this]
        simp; omega
      · rw [if_neg h2] at h
        have := nextP_clos c b (y :: r) h
        show nextP c (x :: (y :: r ++ b)) = _
        rw [show nextP c (x :: (y :: r ++ b)) = nextP c (y :: r ++ b) + 1 by conv => lhs; unfold nextP; rw [if_neg h1, if_neg h2], this]
        simp; omega
theorem clos_app (c : UInt8) (b : List UInt8) (hb : clos c b = true) : ∀ a, clos c a = true → clos c (a ++ b) = true
  | [], _ => hb
  | [x], h => by
    unfold clos at h
    by_cases h1 : x = c
    · rw [if_pos h1] at h; cases h
    · rw [if_neg h1] at h
      by_cases h2 : x = 92
      · rw [if_pos h2] at h; cases h
      · show clos c (x :: b) = true
        unfold clos; rw [if_neg h1, if_neg h2]; exact hb
  | x :: y :: r, h => by
    unfold clos at h
    by_cases h1 : x = c
    · rw [if_pos h1] at h; cases h
    · rw [if_neg h1] at h
      by_cases h2 : x = 92
      · rw [if_pos h2] at h
        show clos c (x :: y :: (r ++ b)) = true
        unfold clos; rw [if_neg h1, if_pos h2]; exact clos_app c b hb r h
      · rw [if_neg h2] at h
        show clos c (x :: (y :: r ++ b)) = true
        unfold clos; rw [if_neg h1, if_neg h2]; exact clos_app c b hb (y :: r) h
theorem nocut_of_clos (c : UInt8) (l : List UInt8) (h : clos c l = true) : nocut c l := by
  have := nextP_clos c [] l h
  rw [List.append_nil] at this
  unfold nocut; rw [this]; rfl
theorem clos_plain (c : UInt8) : ∀ l : List UInt8, (∀ x ∈ l, x ≠ c ∧ x ≠ 92) → clos c l = true
  | [], _ => rfl
  | x :: r, h => by
    have h0 := h x (by simp)
    unfold clos; rw [if_neg h0.1, if_neg h0.2]; exact clos_plain c r (fun y hy => h y (by simp [hy]))
theorem spec4_iff (c : UInt8) : spec4 c = true ↔ c = 44 ∨ c = 61 ∨ c = 43 ∨ c = 92 := by
  unfold spec4; simp [or_assoc]
theorem clos_escV (c : UInt8) (hc : spec4 c = true) (h92 : c ≠ 92) : ∀ l, clos c (escV l) = true
  | [] => rfl
  | x :: r => by
    have ih := clos_escV c hc h92 r
    show clos c (escB x ++ escV r) = true
    unfold escB
    by_cases h : spec4 x = true
    · rw [if_pos h]
      show clos c (92 :: x :: escV r) = true
      unfold clos; rw [if_neg (Ne.symm h92), if_pos rfl]; exact ih
    · rw [if_neg h]
      have h1 : x ≠ c := fun e => h (by rw [e]; exact hc)
      have h2 : x ≠ 92 := fun e => h (by rw [e]; rfl)
      show clos c (x :: escV r) = true
      unfold clos; rw [if_neg h1, if_neg h2]; exact ih
theorem valP_escV : ∀ l, valP (escV l) = some l
  | [] => rfl
  | x :: r => by
    have ih := valP_escV r
    show valP (escB x ++ escV r) = _
    unfold escB
    by_cases h : spec4 x = true
    · rw [if_pos h]
      show valP (92 :: x :: escV r) = _
      unfold valP; rw [if_pos rfl]
      show (if spec4 x = true then (valP (escV r)).map (x :: ·) else none) = _
      rw [if_pos h, ih]; rfl
    · rw [if_neg h]
      have h2 : x ≠ 92 := fun e => h (by rw [e]; rfl)
      have h3 : ¬ (x = 61 ∨ x = 43) := fun e => h (by rcases e with e | e <;> (rw [e]; rfl))
      show valP (x :: escV r) = _
      unfold valP; rw [if_neg h2, if_neg h3, ih]; rfl
/-- where no comma stands that is not escaped, both ways of reading a value are one -/
theorem valQ_valP : ∀ l, nocut 44 l → valQ l = valP l
  | [], _ => rfl
  | [x], h => by
    unfold nocut nextP at h
    by_cases h1 : x = 44
    · rw [if_pos h1] at h; simp at h
    · unfold valQ valP
      by_cases h2 : x = 92
      · rw [if_pos h2, if_pos h2]
      · rw [if_neg h2, if_neg h2]
        by_cases h3 : x = 61 ∨ x = 43
        · rw [if_pos h3, if_pos (by rw [spec4_iff]; rcases h3 with h3 | h3 <;> simp [h3])]
        · rw [if_neg h3, if_neg (by rw [spec4_iff]; simp at h3; simp [h1, h2, h3])]; rfl
  | x :: y :: r, h => by
    unfold nocut nextP at h
    by_cases h1 : x = 44
    · rw [if_pos h1] at h; simp at h
    · rw [if_neg h1] at h
      unfold valQ valP
      by_cases h2 : x = 92
      · rw [if_pos h2] at h
        rw [if_pos h2, if_pos h2]
        show (if spec4 y = true then (valQ r).map (y :: ·) else none) = (if spec4 y = true then (valP r).map (y :: ·) else none)
        rw [valQ_valP r (by unfold nocut; simp at h; exact h)]
      · rw [if_neg h2] at h
        rw [if_neg h2, if_neg h2, valQ_valP (y :: r) (by unfold nocut; simp at h ⊢; exact h)]
        by_cases h3 : x = 61 ∨ x = 43
        · rw [if_pos h3, if_pos (by rw [spec4_iff]; rcases h3 with h3 | h3 <;> simp [h3])]
        · rw [if_neg h3, if_neg (by rw [spec4_iff]; simp at h3; simp [h1, h2, h3])]
/-- what stands before the first c holds none -/
theorem nocut_take (c : UInt8) (hc : c ≠ 92) : ∀ l : List UInt8, nocut c (l.take (nextP c l))
  | [] => by unfold nocut; simp [nextP]
  | [x] => by
    unfold nocut
    conv => lhs; arg 2; arg 1; unfold nextP
    conv => rhs; arg 1; arg 1; unfold nextP
    by_cases h1 : x = c
    · rw [if_pos h1]; simp [nextP]
    · rw [if_neg h1]
      by_cases h2 : x = 92
      · rw [if_pos h2]; simp [nextP, h1, h2]; exact fun e => absurd e.symm hc
      · rw [if_neg h2]; simp [nextP, h1, h2]
  | x :: y :: r => by
    unfold nocut
    conv => lhs; arg 2; arg 1; unfold nextP
    conv => rhs; arg 1; arg 1; unfold nextP
    by_cases h1 : x = c
    · rw [if_pos h1]; simp [nextP]
    · rw [if_neg h1]
      by_cases h2 : x = 92
      · have ih := nocut_take c hc r
        unfold nocut at ih
        rw [if_pos h2]
        show nextP c (x :: y :: r.take (nextP c r)) = (x :: y :: r.take (nextP c r)).length
        rw [show nextP c (x :: y :: r.take (nextP c r)) = nextP c (r.take (nextP c r)) + 2 by conv => lhs; unfold nextP; rw [if_neg h1, if_pos h2], ih]
        simp
      · have ih := nocut_take c hc (y :: r)
        unfold nocut at ih
        rw [if_neg h2]
        show nextP c (x :: (y :: r).take (nextP c (y :: r))) = (x :: (y :: r).take (nextP c (y :: r))).length
        rw [show nextP c (x :: (y :: r).take (nextP c (y :: r))) = nextP c ((y :: r).take (nextP c (y :: r))) + 1 by conv => lhs; unfold nextP; rw [if_neg h1, if_neg h2], ih]
        simp
/-- and so does what stands behind another separator -/
theorem nocut_drop (c d : UInt8) (hd : d ≠ 92) (hcd : c ≠ d) : ∀ l : List UInt8, nocut c l → nextP d l < l.length → nocut c (l.drop (nextP d l + 1))
  | [], _, h => by simp [nextP] at h
  | [x], h, h0 => by
    have : nextP d [x] = 0 := by simp at h0; exact h0
    rw [this]; unfold nocut; simp [nextP]
  | x :: y :: r, h, h0 => by
    have e0 : nextP d (x :: y :: r) = if x = d then 0 else if x = 92 then nextP d r + 2 else nextP d (y :: r) + 1 := by conv => lhs; unfold nextP
    have e1 : nextP c (x :: y :: r) = if x = c then 0 else if x = 92 then nextP c r + 2 else nextP c (y :: r) + 1 := by conv => lhs; unfold nextP
    unfold nocut at h
    rw [e1] at h
    have hxc : x ≠ c := fun e => by rw [if_pos e] at h; simp at h
    rw [if_neg hxc] at h
    rw [e0] at h0 ⊢
    by_cases h1 : x = d
    · rw [if_pos h1]
      have h2 : x ≠ 92 := fun e => hd (h1.symm.trans e)
      rw [if_neg h2] at h
      unfold nocut; simp at h ⊢; exact h
    · rw [if_neg h1] at h0 ⊢
      by_cases h2 : x = 92
      · rw [if_pos h2] at h h0 ⊢
        have := nocut_drop c d hd hcd r (by unfold nocut; simp at h; exact h) (by simp at h0; exact h0)
        simpa using this
      · rw [if_neg h2] at h h0 ⊢
        have := nocut_drop c d hd hcd (y :: r) (by unfold nocut; simp at h ⊢; exact h) (by simp at h0 ⊢; exact h0)
        simpa using this
theorem nocut_pre (c : UInt8) : ∀ a b : List UInt8, nocut c (a ++ b) → nocut c a
  | [], _, _ => by unfold nocut; simp [nextP]
  | [x], b, h => by
    unfold nocut at *
    have e1 : nextP c ([x] ++ b) = nextP c (x :: b) := rfl
    by_cases h1 : x = c
    · rw [e1] at h
      unfold nextP at h
      rw [if_pos h1] at h; simp at h
    · have e : nextP c [x] = if x = c then 0 else if x = 92 then 1 else nextP c [] + 1 := by conv => lhs; unfold nextP
      rw [e, if_neg h1]
      split <;> simp [nextP]
  | x :: y :: r, b, h => by
    have e0 : ∀ m, nextP c (x :: y :: m) = if x = c then 0 else if x = 92 then nextP c m + 2 else nextP c (y :: m) + 1 := fun m => by conv => lhs; unfold nextP
    unfold nocut at h ⊢
    rw [List.cons_append, List.cons_append, e0] at h
    rw [e0]
    by_cases h1 : x = c
    · rw [if_pos h1] at h; simp at h
    · rw [if_neg h1] at h ⊢
      by_cases h2 : x = 92
      · rw [if_pos h2] at h ⊢
        have := nocut_pre c r b (by unfold nocut; simp at h ⊢; omega)
        unfold nocut at this; rw [this]; rfl
      · rw [if_neg h2] at h ⊢
        have := nocut_pre c (y :: r) b (by unfold nocut; simp at h ⊢; omega)
        unfold nocut at this; rw [this]; rfl
theorem nocut_32 (c : UInt8) (hc : c ≠ 32) (l : List UInt8) (h : nocut c (32 :: l)) : nocut c l := by
  unfold nocut at *
  have e : nextP c (32 :: l) = nextP c l + 1 := by conv => lhs; unfold nextP; rw [if_neg (fun e => hc e.symm), if_neg (by decide)]
  rw [e] at h
  simpa using h
theorem nocut_left (c : UInt8) (hc : c ≠ 32) : ∀ l : List UInt8, nocut c l → nocut c (Lib.trimLeftB l 32)
  | [], h => h
  | x :: l, h => by
    unfold Lib.trimLeftB
    rw [List.dropWhile_cons]
    by_cases hx : (x == 32) = true
    · rw [if_pos hx]
      have e : x = 32 := by simpa using hx
      rw [e] at h
      exact nocut_left c hc l (nocut_32 c hc l h)
    · rw [if_neg hx]; exact h
theorem nocut_right (c : UInt8) (l : List UInt8) (h : nocut c l) : nocut c (Lib.trimRightB l 32) := by
  refine nocut_pre c _ (l.reverse.takeWhile (· == 32)).reverse ?_
  have e : Lib.trimRightB l 32 ++ (l.reverse.takeWhile (· == 32)).reverse = l := by
    unfold Lib.trimRightB
    rw [← List.reverse_append, List.takeWhile_append_dropWhile, List.reverse_reverse]
  rw [e]; exact h
theorem nocut_trim (c : UInt8) (hc : c ≠ 32) (l : List UInt8) (h : nocut c l) : nocut c (trimR l) := by
  unfold trimR; exact nocut_right c _ (nocut_left c hc l h)
/-- the pieces between the c that are not escaped -/
def headOn (a : List UInt8) : List (List UInt8) → List (List UInt8)
  | [] => [a]
  | p :: ps => (a ++ p) :: ps
def pieces (c : UInt8) : List UInt8 → List (List UInt8)
  | [] => [[]]
  | x :: r => if x = c then [] :: pieces c r else if x = 92 then (match r with
      | [] => [[x]]
      | y :: r' => headOn [x, y] (pieces c r')) else headOn [x] (pieces c r)
theorem pieces_cut (c : UInt8) : ∀ l, pieces c l = l.take (nextP c l) :: (if nextP c l < l.length then pieces c (l.drop (nextP c l + 1)) else [])
  | [] => by simp [pieces, nextP]
  | [x] => by
    unfold pieces
    conv => rhs; unfold nextP
    by_cases h1 : x = c
    · rw [if_pos h1, if_pos h1]; simp [pieces]
    · rw [if_neg h1, if_neg h1]
      by_cases h2 : x = 92
      · rw [if_pos h2, if_pos h2]; simp
      · rw [if_neg h2, if_neg h2]; simp [pieces, nextP, headOn]
  | x :: y :: r => by
    have e1 : nextP c (x :: y :: r) = if x = c then 0 else if x = 92 then nextP c r + 2 else nextP c (y :: r) + 1 := by conv => lhs; unfold nextP
    have e2 : pieces c (x :: y :: r) = if x = c then [] :: pieces c (y :: r) else if x = 92 then headOn [x, y] (pieces c r) else headOn [x] (pieces c (y :: r)) := by conv => lhs; unfold pieces
    rw [e1, e2]
    by_cases h1 : x = c
    · rw [if_pos h1, if_pos h1]; simp
    · rw [if_neg h1, if_neg h1]
      by_cases h2 : x = 92
      · rw [if_pos h2, if_pos h2, pieces_cut c r]; simp [headOn]
      · rw [if_neg h2, if_neg h2, pieces_cut c (y :: r)]; simp [headOn]
end Nam
end Go.Proofs.YtbkignlbcneddaaGreatDoor
end
