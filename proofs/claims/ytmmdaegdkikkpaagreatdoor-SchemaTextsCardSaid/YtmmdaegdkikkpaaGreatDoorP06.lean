/-
  Texts of the schema layer and of those beneath it, joined: CodecStr, CodecC, CodecDec, CodecInt, NamL, NamP, NamC. Conditions stand at each contract.
-/
import Derived.Laws.RangeAny
import Derived.Laws.RangeString
import Derived.Lib.RuneCount
import Derived.Lib.AtoiAllCases
import Derived.Lib.LaidTab
import Derived.Test.YtmmdaegdkikkpaaGreatDoorP01
import Derived.Test.YtmmdaegdkikkpaaGreatDoorP02
import Derived.Test.YtmmdaegdkikkpaaGreatDoorP05
set_option linter.unusedVariables false
set_option linter.unusedSimpArgs false
set_option linter.unnecessarySimpa false

section
/-
  The contract of strings.Builder's WriteString as this program's translation has it, at a builder that the call itself made. Condition: at most 2^46 bytes.
-/
set_option maxRecDepth 100000
namespace Go.Proofs.YtmmdaegdkikkpaaGreatDoor
open Go.RowKit Go.PlainAid
theorem strCells_b (s : ByteArray) : Lib.strCells s = bcells s.data.toList := rfl
set_option maxHeartbeats 2000000 in
set_option maxRecDepth 100000 in
theorem writeString_cells (B b : Nat) (bs : List Value) (s : ByteArray) (w : World) (h : Lib.IsBuilder 79 5 B b bs w) (hlen : bs.length + s.size ≤ 140737488355328) (hBw : B ≤ w.heap.size) :
    Calls Tryz.prog 55 #[.pointer (some ⟨b, 0, none⟩), .string s] w fun e w' => e = .returned (.tuple #[.int .i64 s.size, .nilIface]) ∧ (Lib.BuilderAt 79 5 B b (.pointer (some ⟨b, 0, none⟩)) (bs ++ Lib.strCells s) w' ∧ Below B w w') := by
  obtain ⟨i0, hi, hz0, hz1, hz2⟩ := info_parts info5
  go_enter Tryz.func55, Tryz.ntmps55
  go_wp2_with (go_at_call 115; refine (check_any B b bs _ h).mono ?_)
  rintro e w1 ⟨rfl, h1, hb1⟩
  obtain ⟨hB, v, hbk, hown, hne⟩ := h1
  have c1 : w1.cell? ⟨b, 1, none⟩ = some v := by rw [Lib.cell_of_heap hbk]; rfl
  have HZ := hb1.size
  have hlt : b < w1.heap.size := by
    rcases Nat.lt_or_ge b w1.heap.size with h' | h'
    · exact h'
    · simp [Array.getElem?_eq_none h'] at hbk
  go_wp2_with (at_builtin; refine Lib.wpList_append_own_string w1 ?_ (.tmp 12) (.tmp 13) 77 9 ?_ B 5 i0 Tryz.underlying77 Tryz.underlying9 hi hz0 hz1 hz2 v bs.length bs ?_ hown s ?_ ?_ ?_ ?_ ?_; exact rfl; exact rfl; exact rfl; exact rfl; (unfold maxLen; omega); omega; omega)
  intro v' w2 hown' hgrow hnil
  have hb2 : w2.heap[b]? = some (.cells #[.pointer (some ⟨b, 0, none⟩), v] 79 (0, 0)) := by
    rw [hgrow.block b hlt (fun e => hne e.symm)]
    exact hbk
  have d1 : w2.cell? ⟨b, 1, none⟩ = some v := by rw [Lib.cell_of_heap hb2]; rfl
  have f1 : w2.frozen? ⟨b, 1, none⟩ = false := Lib.frozen_of_heap hb2 1
  have hlen' : (bs ++ Lib.strCells s).length = bs.length + s.size := by simp [Lib.strCells_length]
  have hbel : Below B w w2 := hb1.grown hgrow (by omega) (fun k hk => (hown.lt k hk).1)
  have hcase : v' = .slice none 0 0 ∨ ∃ g n cap, v' = .slice (some ⟨g, 0, none⟩) n cap := by
    rcases hown'.2 with ⟨h, h0⟩ | ⟨g, cap, cur, hv, _⟩
    · exact .inl h
    · exact .inr ⟨g, _, cap, hv⟩
  rcases hcase with rfl | ⟨g, n, cap, rfl⟩
  · go_wp2
    go_ret2
    refine ⟨rfl, ?_, hbel.setCell (p := ⟨b, 1, none⟩) hB _⟩
    exact Lib.BuilderAt.put (T := 79) (e := 5) hB hb2 (bs' := bs ++ Lib.strCells s) (by rw [hlen']; exact hown') (by decide)
  · go_wp2
    go_ret2
    refine ⟨rfl, ?_, hbel.setCell (p := ⟨b, 1, none⟩) hB _⟩
    exact Lib.BuilderAt.put (T := 79) (e := 5) hB hb2 (bs' := bs ++ Lib.strCells s) (by rw [hlen']; exact hown') (by decide)
/-- WriteString at a builder that holds the bytes l -/
theorem writeString_s (B b : Nat) (l : List UInt8) (s : ByteArray) (w : World) (h : Bld B b l w) (hlen : l.length + s.size ≤ 100000000000) (hBw : B ≤ w.heap.size) :
    Calls Tryz.prog 55 #[.pointer (some ⟨b, 0, none⟩), .string s] w fun e w' => e = .returned (.tuple #[.int .i64 s.size, .nilIface]) ∧ Bld B b (l ++ s.data.toList) w' ∧ Below B w w' := by
  refine (writeString_cells B b (bcells l) s w h (by rw [bcells_length]; omega) hBw).mono fun e w' h => ⟨h.1, ?_, h.2.2⟩
  unfold Bld
  rw [bcells_append, ← strCells_b]
  exact .inr h.2.1
end Go.Proofs.YtmmdaegdkikkpaaGreatDoor
end

section
/-
  Plain functions for the text forms of lists: the pieces between the bars, reading them, writing them. No condition.
-/
set_option maxRecDepth 100000
namespace Go.Proofs.YtmmdaegdkikkpaaGreatDoor
open Go.PlainAid
/-- the pieces between the bytes b -/
def pieces (b : UInt8) : List UInt8 → List (List UInt8)
  | [] => [[]]
  | c :: l => if c = b then [] :: pieces b l else match pieces b l with
    | p :: r => (c :: p) :: r
    | [] => [[c]]
theorem occ_one (l : List UInt8) (b : UInt8) (i : Nat) : Lib.occAt l [b] i = true ↔ l[i]? = some b := by
  unfold Lib.occAt
  rw [← List.head?_drop]
  cases l.drop i with
  | nil => simp
  | cons c m =>
    simp only [List.isPrefixOf, Bool.and_true, List.head?_cons, Option.some.injEq, beq_iff_eq]
    exact eq_comm
theorem pieces_hit (b : UInt8) : ∀ (l : List UInt8) (i : Nat), l[i]? = some b → (∀ j, j < i → l[j]? ≠ some b) → pieces b l = l.take i :: pieces b (l.drop (i + 1))
  | [], i, h, _ => by simp at h
  | c :: l, 0, h, _ => by
    have : c = b := by simpa using h
    conv => lhs; unfold pieces
    rw [if_pos this]; rfl
  | c :: l, i + 1, h, hn => by
    have hc : c ≠ b := fun e => hn 0 (by omega) (by rw [e]; rfl)
    have ih := pieces_hit b l i (by simpa using h) (fun j hj => by have := hn (j + 1) (by omega); simpa using this)
    conv => lhs; unfold pieces
    rw [if_neg hc, ih]
    rfl
theorem pieces_miss (b : UInt8) : ∀ (l : List UInt8), (∀ j : Nat, l[j]? ≠ some b) → pieces b l = [l]
  | [], _ => rfl
  | c :: l, hn => by
    have hc : c ≠ b := fun e => hn 0 (by rw [e]; rfl)
    have ih := pieces_miss b l (fun j => by have := hn (j + 1); simpa using this)
    unfold pieces
    rw [if_neg hc, ih]
/-- Cut at one byte -/
theorem cut_one (t : ByteArray) (b : UInt8) : (cutOk t ⟨#[b]⟩ = true ∧ pieces b t.data.toList = (cutBef t ⟨#[b]⟩).data.toList :: pieces b (cutAft t ⟨#[b]⟩).data.toList ∧ (cutAft t ⟨#[b]⟩).size < t.size ∧ (cutBef t ⟨#[b]⟩).size ≤ t.size ∧
      (∀ j : Nat, (cutBef t ⟨#[b]⟩).data.toList[j]? ≠ some b)) ∨
    (cutOk t ⟨#[b]⟩ = false ∧ pieces b t.data.toList = [t.data.toList] ∧ cutBef t ⟨#[b]⟩ = t ∧ cutAft t ⟨#[b]⟩ = ⟨#[]⟩) := by
  have e : (⟨#[b]⟩ : ByteArray).data.toList = [b] := rfl
  rcases Lib.index_spec t.data.toList [b] with ⟨hi, hn⟩ | ⟨i, hi, hle, ho, hno⟩
  · refine .inr ?_
    have hcut : Lib.cut t.data.toList (⟨#[b]⟩ : ByteArray).data.toList = (t.data.toList, [], false) := by
      unfold Lib.cut; rw [e, hi]; rfl
    refine ⟨by unfold cutOk; rw [hcut], ?_, ?_, ?_⟩
    · refine pieces_miss b _ (fun j hj => ?_)
      have hlt : j < t.data.toList.length := (List.getElem?_eq_some_iff.1 hj).1
      have := hn j (by omega)
      rw [(occ_one _ _ _).2 hj] at this
      cases this
    · unfold cutBef; rw [hcut]
    · unfold cutAft; rw [hcut]
  · refine .inl ?_
    have hget := (occ_one _ _ _).1 ho
    have hlt : i < t.data.toList.length := (List.getElem?_eq_some_iff.1 hget).1
    have hcut : Lib.cut t.data.toList (⟨#[b]⟩ : ByteArray).data.toList = (t.data.toList.take i, t.data.toList.drop (i + 1), true) := by
      unfold Lib.cut; rw [e, hi, if_pos (by omega)]; simp
    have hno' : ∀ j, j < i → t.data.toList[j]? ≠ some b := fun j hj h => by
      have := hno j hj
      rw [(occ_one _ _ _).2 h] at this
      cases this
    have eb : (cutBef t ⟨#[b]⟩).data.toList = t.data.toList.take i := by unfold cutBef; rw [hcut]
    have ea : (cutAft t ⟨#[b]⟩).data.toList = t.data.toList.drop (i + 1) := by unfold cutAft; rw [hcut]
    refine ⟨by unfold cutOk; rw [hcut], ?_, ?_, ?_, ?_⟩
    · rw [eb, ea]; exact pieces_hit b _ i hget hno'
    · rw [Lib.size_eq, Lib.size_eq t, ea, List.length_drop]; omega
    · rw [Lib.size_eq, Lib.size_eq t, eb, List.length_take]; omega
    · intro j hj
      rw [eb, List.getElem?_take] at hj
      by_cases h : j < i
      · rw [if_pos h] at hj; exact hno' j h hj
      · rw [if_neg h] at hj; cases hj
def ofL (l : List UInt8) : ByteArray := ⟨l.toArray⟩
end Go.Proofs.YtmmdaegdkikkpaaGreatDoor
end

section
/-
  Plain functions for decimal forms, and the contract of codec.decimal. Condition: at most 1000000000 bytes.
-/
set_option maxRecDepth 100000
namespace Go.Proofs.YtmmdaegdkikkpaaGreatDoor
open Go.RowKit Go.PlainAid
def digB (c : UInt8) : Bool := decide (48 ≤ c.toNat) && decide (c.toNat ≤ 57)
/-- without one leading minus -/
def stripL (l : List UInt8) : List UInt8 := Lib.trimPrefix l [45]
def digsB (l : List UInt8) : Bool := match l with
  | [] => false
  | c :: _ => !(c == 48) && l.all digB
def decB (l : List UInt8) : Bool := decide (l = [48]) || digsB (stripL l)
theorem digs_at {t : ByteArray} (j : Nat) (h : j < t.size) (hd : digB (chr t j) = false) : digsB t.data.toList = false := by
  have hm : chr t j ∈ t.data.toList := by
    unfold chr
    rw [List.getD_eq_getElem?_getD, List.getElem?_eq_getElem (by simpa using h)]
    exact List.getElem_mem _
  have : t.data.toList.all digB = false := by
    rw [List.all_eq_false]
    exact ⟨_, hm, by rw [hd]; simp⟩
  unfold digsB
  split
  · rfl
  · rw [this]; simp
theorem digs_all {t : ByteArray} (h0 : t.data.toList ≠ []) (h1 : chr t 0 ≠ 48) (h : ∀ j, j < t.size → digB (chr t j) = true) : digsB t.data.toList = true := by
  have : t.data.toList.all digB = true := by
    rw [List.all_eq_true]
    intro c hc
    obtain ⟨j, hj, rfl⟩ := List.getElem_of_mem hc
    have := h j (by simpa using hj)
    unfold chr at this
    rw [List.getD_eq_getElem?_getD, List.getElem?_eq_getElem hj] at this
    exact this
  unfold chr at h1
  cases e : t.data.toList with
  | nil => exact absurd e h0
  | cons c r =>
    rw [e] at h1 this
    unfold digsB
    rw [this]
    simpa using h1
theorem digs_zero {t : ByteArray} (h1 : chr t 0 = 48) : digsB t.data.toList = false := by
  unfold chr at h1
  cases e : t.data.toList with
  | nil => rfl
  | cons c r =>
    rw [e] at h1
    have : c = 48 := by simpa using h1
    unfold digsB; rw [this]; rfl
theorem byte_chr (t : ByteArray) (k : Nat) (h : k < t.size) : ((t[k]'h).toNat : Int) = bt t k := by unfold bt; rw [dif_pos h]
/-- one step of a range over a string, at a byte below 128 -/
theorem next_low (w : World) (t : ByteArray) (k : Nat) (h : k < t.size) (hc : bt t k < 128) (ty : TypeId) :
    (Instr.next (.pointer (some ⟨w.heap.size, 0, none⟩)) true ty).run Tryz.prog (w.iter t k) = .ok (.tuple #[.bool true, .int .i64 k, .int .i32 (bt t k)]) (w.iter t (k + 1)) := by
  have hb := byte_chr t k h
  rw [run_next_ascii (P := Tryz.prog) w t k ty h (by omega), hb]
/-- .. and above -/
theorem next_high (w : World) (t : ByteArray) (k : Nat) (h : k < t.size) (hc : 128 ≤ bt t k) : ∃ (r : Int) (d : Nat), 128 ≤ r ∧ 1 ≤ d ∧ (∀ ty,
    (Instr.next (.pointer (some ⟨w.heap.size, 0, none⟩)) true ty).run Tryz.prog (w.iter t k) = .ok (.tuple #[.bool true, .int .i64 k, .int .i32 r]) (w.iter t (k + d))) := by
  have hb := byte_chr t k h
  have hd := decode_high t k h (by omega)
  exact ⟨((Utf8.decode t k).1 : Int), (Utf8.decode t k).2, by omega, hd.2, fun ty => run_next_any (P := Tryz.prog) w t k ty h⟩
theorem below_iter {w : World} {t : ByteArray} {k : Nat} : Below w.heap.size w (w.iter t k) := (Below.refl _ _).alloc (Nat.le_refl _) _
/-- what TrimPrefix leaves -/
def undash (s : ByteArray) : ByteArray := ⟨(Lib.trimPrefix s.data.toList (⟨#[45]⟩ : ByteArray).data.toList).toArray⟩
theorem trim_dash (s t : ByteArray) (w : World) (h : Hid (t = undash s)) :
    Calls Tryz.prog 269 #[.string s, .string ⟨#[45]⟩] w fun e w' => e = .returned (.string t) ∧ w = w' :=
  (Tryz.strings_TrimPrefix _ _ _).mono fun e w' k => ⟨by rw [k.1, h.out]; rfl, k.2.symm⟩
set_option maxRecDepth 100000 in
set_option maxHeartbeats 4000000 in
theorem decimal_s (s : ByteArray) (w : World) (hs : s.size ≤ 1000000000) :
    Calls Tryz.prog 234 #[.string s] w fun e w' => e = .returned (.bool (decB s.data.toList)) ∧ Below w.heap.size w w' := by
  by_cases h1 : s.data.toList = [48]
  · have HE := Lib.hid (show decB s.data.toList = true by unfold decB; simp [h1])
    obtain rfl : s = ⟨#[48]⟩ := by rw [← Lib.mk_data s, h1]
    clear h1
    go_enter Tryz.func234, Tryz.ntmps234
    go_wp2
    go_ret
    exact ⟨by rw [HE.out]; rfl, Below.refl _ _⟩
  · have e1 : (s.toList == [48]) = false := by rw [Lib.toList_data]; simpa using h1
    obtain ⟨t, ht⟩ : ∃ t : ByteArray, t = undash s := ⟨_, rfl⟩
    have hts : t.size ≤ s.size := by
      rw [ht, undash, Lib.size_mk, Lib.size_eq]
      unfold Lib.trimPrefix; split <;> simp
    have HE := Lib.hid (show decB s.data.toList = digsB t.data.toList by unfold decB stripL; rw [ht]; simp [h1, undash])
    have HT := Lib.hid ht
    clear h1 ht
    by_cases h0 : t.size = 0
    · have HF := Lib.hid (show decB s.data.toList = false by
        rw [HE.out]
        have : t.data.toList = [] := List.length_eq_zero_iff.1 (by rw [← Lib.size_eq]; exact h0)
        rw [this]; rfl)
      have hte : t.toList.isEmpty = true := by rw [Lib.toList_data, List.length_eq_zero_iff.1 (show t.data.toList.length = 0 by rw [← Lib.size_eq]; exact h0)]; rfl
      go_enter Tryz.func234, Tryz.ntmps234
      go_wp2_with (go_at_call 269; refine (trim_dash _ _ _ HT).mono ?_; rintro e w' ⟨rfl, rfl⟩)
      go_ret
      exact ⟨by rw [HF.out]; rfl, Below.refl _ _⟩
    · have hte : t.toList.isEmpty = false := by
        rw [Lib.toList_data]
        cases e : t.data.toList with
        | nil => have := Lib.size_eq t; rw [e] at this; exact absurd this h0
        | cons _ _ => rfl
      have hb := get_bt t
      have h00 := bt_nonneg t 0
      have hpos : 0 < t.size := by omega
      by_cases h2 : chr t 0 = 48
      · have HF := Lib.hid (show decB s.data.toList = false by rw [HE.out, digs_zero h2])
        have h3 : (bt t 0 == 48) = true := by rw [bt_chr, h2]; rfl
        clear h2
        go_enter Tryz.func234, Tryz.ntmps234
        go_wp2_with (go_at_call 269; refine (trim_dash _ _ _ HT).mono ?_; rintro e w' ⟨rfl, rfl⟩)
        go_ret
        exact ⟨by rw [HF.out]; rfl, Below.refl _ _⟩
      · have H2 := Lib.hid h2
        have h3 : (bt t 0 == 48) = false := by
          rw [bt_chr]; refine beq_false_of_ne fun e => h2 ?_
          have h4 : (48 : UInt8).toNat = 48 := rfl
          exact UInt8.toNat_inj.1 (by omega)
        clear h2
        go_enter Tryz.func234, Tryz.ntmps234
        go_wp2_with (go_at_call 269; refine (trim_dash _ _ _ HT).mono ?_; rintro e w' ⟨rfl, rfl⟩)
        go_loopw [5] (fun _ wr => ∃ k : Nat, k ≤ t.size ∧ wr = w.iter t k ∧ Hid (∀ j, j < k → digB (chr t j) = true)) (fun _ wr => t.size - wr.iterPos w.heap.size)
        case atStart => exact ⟨0, Nat.zero_le _, rfl, Lib.hid fun j hj => absurd hj (Nat.not_lt_zero _)⟩
        case round =>
          obtain ⟨k, hk, rfl, HA⟩ := hrel
          by_cases hlt : k < t.size
          · have hk0 := bt_nonneg t k
            by_cases h128 : bt t k < 128
            · have hnx := next_low w t k hlt h128
              by_cases d1 : 48 ≤ bt t k
              · by_cases d2 : bt t k ≤ 57
                · have HD := Lib.hid (show digB (chr t k) = true by
                    have := bt_chr t k
                    unfold digB; simp; omega)
                  go_wp2
                  go_roundw
                  case rel => exact ⟨k + 1, by omega, rfl, Lib.hid fun j hj => if e : j = k then by rw [e]; exact HD.out else HA.out j (by omega)⟩
                  case measure => simp; omega
                · have HF := Lib.hid (show decB s.data.toList = false by
                    rw [HE.out]; refine digs_at k hlt ?_
                    have := bt_chr t k
                    unfold digB; simp; omega)
                  go_wp2
                  go_ret
                  exact ⟨by rw [HF.out]; rfl, below_iter⟩
              · have HF := Lib.hid (show decB s.data.toList = false by
                  rw [HE.out]; refine digs_at k hlt ?_
                  have := bt_chr t k
                  unfold digB; simp; omega)
                go_wp2
                go_ret
                exact ⟨by rw [HF.out]; rfl, below_iter⟩
            · obtain ⟨r, d, hr, hd, hnx⟩ := next_high w t k hlt (by omega)
              have HF := Lib.hid (show decB s.data.toList = false by
                rw [HE.out]; refine digs_at k hlt ?_
                have := bt_chr t k
                unfold digB; simp; omega)
              have hr1 : ¬ r < 48 := by omega
              have hr2 : 57 < r := by omega
              go_wp2
              go_ret
              exact ⟨by rw [HF.out]; rfl, below_iter⟩
          · have hnx : ∀ ty, (Instr.next (.pointer (some ⟨w.heap.size, 0, none⟩)) true ty).run Tryz.prog (w.iter t k) = _ := fun ty => run_next_end w t k ty hlt
            have HF := Lib.hid (show decB s.data.toList = true by
              rw [HE.out]
              refine digs_all (fun e => h0 (by rw [Lib.size_eq, e]; rfl)) H2.out (fun j hj => HA.out j (by omega)))
            go_wp2
            go_ret
            exact ⟨by rw [HF.out]; rfl, below_iter⟩
end Go.Proofs.YtmmdaegdkikkpaaGreatDoor
end

section
/-
  What strconv's Itoa and Atoi ask of the world, and the contracts of codec.Int and codec.ReadInt. Condition: the library's table of powers and its error lie as the program's text lays them; at most 1000000000 bytes.
-/
set_option maxRecDepth 100000
namespace Go.Proofs.YtmmdaegdkikkpaaGreatDoor
open Go.RowKit Go.PlainAid
def IntOk (w : World) : Prop := Lib.TabIs Tryz.prog w "internal/strconv.uint64pow10" .u64 Lib.pow10Tab ∧ ∃ tp p, w.var? Tryz.prog "strconv.ErrRange" = some #[.iface tp p]
theorem var_below {w w' : World} {B : Nat} {n : String} {cs : Array Value} (h : w.var? Tryz.prog n = some cs) (hb : Below B w w') (hB : w.heap.size ≤ B) : w'.var? Tryz.prog n = some cs := by
  unfold World.var? at h ⊢
  cases hg : Tryz.prog.globalNamed n with
  | none => rw [hg] at h; cases h
  | some g =>
    rw [hg] at h
    simp only [Option.bind_some] at h ⊢
    have hlt : g < w.heap.size := by
      rcases Nat.lt_or_ge g w.heap.size with k | k
      · exact k
      · rw [Array.getElem?_eq_none k] at h; cases h
    rw [hb.block g (by omega)]
    exact h
theorem IntOk.below {w w' : World} (h : IntOk w) (hb : Below w.heap.size w w') : IntOk w' :=
  ⟨var_below h.1 hb (Nat.le_refl _), by obtain ⟨tp, p, e⟩ := h.2; exact ⟨tp, p, var_below e hb (Nat.le_refl _)⟩⟩
theorem below_bw (w : World) (e : TypeId) (s : ByteArray) : Below w.heap.size w (Lib.bytesWorld w e s) :=
  ⟨rfl, rfl, rfl, by rw [Lib.bytesWorld_size]; omega, fun j hj => Lib.bytesWorld_at_old w e s j hj⟩
theorem below_grow (w : World) (k : Nat) (os : Array Obj) : Below w.heap.size w (Go.Sort.grow (w.drewN k) os) :=
  ⟨rfl, rfl, rfl, by simp [Go.Sort.grow], fun j hj => by simp [Go.Sort.grow, Array.getElem?_append, hj]⟩
theorem atoi_ok (s : ByteArray) (v : Int) (w : World) (hs : s.size ≤ 1000000000) (h : Lib.atoiAll s.data.toList = .ok v) :
    Calls Tryz.prog 235 #[.string s] w fun e w' => e = .returned (.tuple #[.int .i64 v, .nilIface]) ∧ Below w.heap.size w w' :=
  (Tryz.strconv_Atoi_ok s (by omega) v h w).mono fun e w' k => ⟨k.1, by
    rcases k.2 with rfl | ⟨t, rfl⟩
    · exact Below.refl _ _
    · exact below_bw _ _ _⟩
theorem atoi_range (s : ByteArray) (w : World) (hs : s.size ≤ 1000000000) (h : Lib.atoiAll s.data.toList = .range) (ho : IntOk w) :
    Calls Tryz.prog 235 #[.string s] w fun e w' => (∃ (n : Int) (t : TypeId) (N : Nat), e = .returned (.tuple #[.int .i64 n, .iface t (.pointer (some ⟨N, 0, none⟩))])) ∧ Below w.heap.size w w' := by
  obtain ⟨_, tp, p, hv⟩ := ho
  refine (Tryz.strconv_Atoi_range_var s (by omega) h tp p w hv).mono fun e w' ⟨N, h1, h2, h3, h4⟩ => ⟨⟨_, _, N, h1⟩, h4⟩
theorem itoa_s (n : Int) (w : World) (h0 : -9223372036854775808 ≤ n) (h1 : n ≤ 9223372036854775807) (ho : IntOk w) :
    Calls Tryz.prog 270 #[.int .i64 n] w fun e w' => e = .returned (.string (ofL (Lib.itoa n))) ∧ Below w.heap.size w w' :=
  (Tryz.strconv_Itoa n h0 h1 w ho.1).mono fun e w' ⟨k1, k, os, k2⟩ => ⟨k1, by rw [k2]; exact below_grow w k os⟩
/-- a parse that ends in a number or out of range -/
def Fair {α : Type} (x : Lib.NumEnd α) : Prop := (∃ v, x = .ok v) ∨ x = .range
theorem parse_digits : ∀ (l : List UInt8) (acc : Nat), l.all digB = true → Fair (Lib.parseUint10 acc l)
  | [], acc, _ => .inl ⟨acc, rfl⟩
  | c :: r, acc, h => by
    rw [List.all_cons, Bool.and_eq_true] at h
    have hc : 48 ≤ c.toNat ∧ c.toNat ≤ 57 := by simpa [digB] using h.1
    unfold Lib.parseUint10
    rw [if_pos hc]
    split
    · exact .inr rfl
    · split
      · exact .inr rfl
      · exact parse_digits r _ h.2
theorem mag_digits {l : List UInt8} (h : digsB l = true) : Fair (Lib.parseMag l) := by
  cases l with
  | nil => cases h
  | cons c r =>
    unfold digsB at h
    rw [Bool.and_eq_true] at h
    unfold Lib.parseMag
    rw [if_neg (by simp)]
    exact parse_digits _ _ h.2
theorem signless_fair {x : Lib.NumEnd Nat} (h : Fair x) : Fair (Lib.signless x) := by
  rcases h with ⟨v, rfl⟩ | rfl
  · unfold Lib.signless; dsimp only; split
    · exact .inr rfl
    · exact .inl ⟨_, rfl⟩
  · exact .inr rfl
theorem signed_fair {x : Lib.NumEnd Nat} (h : Fair x) : Fair (Lib.signed x) := by
  rcases h with ⟨v, rfl⟩ | rfl
  · unfold Lib.signed; dsimp only; split
    · exact .inr rfl
    · exact .inl ⟨_, rfl⟩
  · exact .inr rfl
theorem strip_minus (r : List UInt8) : stripL (45 :: r) = r := by simp [stripL, Lib.trimPrefix, Lib.hasPrefix]
theorem strip_plain (c : UInt8) (r : List UInt8) (h : c ≠ 45) : stripL (c :: r) = c :: r := by
  unfold stripL Lib.trimPrefix Lib.hasPrefix
  rw [if_neg]
  simp only [List.isPrefixOf, Bool.and_eq_true, beq_iff_eq]
  rintro ⟨e, _⟩; exact h e.symm
theorem dec_atoi {l : List UInt8} (h : decB l = true) : Fair (Lib.atoiAll l) := by
  unfold decB at h
  rw [Bool.or_eq_true] at h
  rcases h with h | h
  · have : l = [48] := by simpa using h
    rw [this]; exact .inl ⟨0, by decide⟩
  · cases l with
    | nil => cases h
    | cons c r =>
      by_cases hc : c = 45
      · subst hc
        rw [strip_minus] at h
        rw [Lib.atoiAll_minus]
        exact signed_fair (mag_digits h)
      · rw [strip_plain c r hc] at h
        have hd : digB c = true := by
          unfold digsB at h
          simp only [Bool.and_eq_true, List.all_cons] at h
          exact h.2.1
        have h2 : 48 ≤ c.toNat ∧ c.toNat ≤ 57 := by simpa [digB] using hd
        rw [Lib.atoiAll_plain c r (by omega) (by omega)]
        exact signless_fair (mag_digits h)
/-- what ReadInt returns -/
def readI (l : List UInt8) : Int × Int := if decB l then (match Lib.atoiAll l with
  | .ok v => (v, 0)
  | _ => (0, 27)) else (0, 4)
set_option maxRecDepth 100000 in
set_option maxHeartbeats 2000000 in
theorem readInt_s (s : ByteArray) (w : World) (hs : s.size ≤ 1000000000) (ho : IntOk w) :
    Calls Tryz.prog 168 #[.string s] w fun e w' => e = .returned (.tuple #[.int .i64 (readI s.data.toList).1, .int .i64 (readI s.data.toList).2]) ∧ Below w.heap.size w w' := by
  have HO := Lib.hid ho; clear ho
  cases hd : decB s.data.toList
  · have HE := Lib.hid (show readI s.data.toList = (0, 4) by unfold readI; rw [hd]; rfl)
    go_enter Tryz.func168, Tryz.ntmps168
    go_wp2_with (go_at_call 234; refine (decimal_s _ _ hs).mono ?_; rintro e w1 ⟨rfl, hb1⟩; rw [hd])
    go_ret2
    exact ⟨by rw [HE.out]; rfl, hb1⟩
  · rcases dec_atoi hd with ⟨v, ha⟩ | ha
    · have HE := Lib.hid (show readI s.data.toList = (v, 0) by unfold readI; rw [hd, ha]; rfl)
      have HA := Lib.hid ha; clear ha
      go_enter Tryz.func168, Tryz.ntmps168
      go_wp2_with (first
        | (go_at_call 234; refine (decimal_s _ _ hs).mono ?_; rintro e w1 ⟨rfl, hb1⟩; rw [hd])
        | (go_at_call 235; refine (atoi_ok s v _ hs HA.out).mono ?_; rintro e w2 ⟨rfl, hb2⟩))
      go_ret2
      exact ⟨by rw [HE.out]; rfl, hb1.trans (hb2.mono hb1.size)⟩
    · have HE := Lib.hid (show readI s.data.toList = (0, 27) by unfold readI; rw [hd, ha]; rfl)
      have HA := Lib.hid ha; clear ha
      go_enter Tryz.func168, Tryz.ntmps168
      go_wp2_with (first
        | (go_at_call 234; refine (decimal_s _ _ hs).mono ?_; rintro e w1 ⟨rfl, hb1⟩; rw [hd])
        | (go_at_call 235; refine (atoi_range s _ hs HA.out (HO.out.below hb1)).mono ?_; rintro e w2 ⟨⟨n, t, N, rfl⟩, hb2⟩))
      go_ret2
      exact ⟨by rw [HE.out]; rfl, hb1.trans (hb2.mono hb1.size)⟩
set_option maxRecDepth 100000 in
theorem int_s (n : Int) (w : World) (h0 : -9223372036854775808 ≤ n) (h1 : n ≤ 9223372036854775807) (ho : IntOk w) :
    Calls Tryz.prog 232 #[.int .i64 n] w fun e w' => e = .returned (.string (ofL (Lib.itoa n))) ∧ Below w.heap.size w w' := by
  have HO := Lib.hid ho; clear ho
  go_enter Tryz.func232, Tryz.ntmps232
  go_wp2_with (go_at_call 270; refine (itoa_s n _ h0 h1 HO.out).mono ?_; rintro e w1 ⟨rfl, hb1⟩)
  go_ret
  exact ⟨rfl, hb1⟩
end Go.Proofs.YtmmdaegdkikkpaaGreatDoor
end

section
/-
  Plain functions for distinguished names on lists of bytes: where a separator stands that is not escaped, the pieces of a text, the value that is written, the text of a component. No condition.
-/
set_option maxRecDepth 100000
namespace Go.Proofs.YtmmdaegdkikkpaaGreatDoor
namespace Nam
open Go.PlainAid
def spec4 (c : UInt8) : Bool := c == 44 || c == 61 || c == 43 || c == 92
/-- where the first c that is not escaped stands, or the length -/
def nextP (c : UInt8) : List UInt8 → Nat
  | [] => 0
  | x :: r => if x = c then 0 else if x = 92 then (match r with
      | [] => 1
      | _ :: r' => nextP c r' + 2) else nextP c r + 1
/-- the value that is written as a piece, unless it is in no right form -/
def valP : List UInt8 → Option (List UInt8)
  | [] => some []
  | x :: r => if x = 92 then (match r with
      | [] => none
      | y :: r' => if spec4 y then (valP r').map (y :: ·) else none) else if x = 61 ∨ x = 43 then none else (valP r).map (x :: ·)
/-- the same, where a comma that is not escaped is refused, too -/
def valQ : List UInt8 → Option (List UInt8)
  | [] => some []
  | x :: r => if x = 92 then (match r with
      | [] => none
      | y :: r' => if spec4 y then (valQ r').map (y :: ·) else none) else if spec4 x then none else (valQ r).map (x :: ·)
def escB (c : UInt8) : List UInt8 := if spec4 c then [92, c] else [c]
def escV (l : List UInt8) : List UInt8 := l.flatMap escB
/-- no c that is not escaped, and no escape at the end -/
def clos (c : UInt8) : List UInt8 → Bool
  | [] => true
  | x :: r => if x = c then false else if x = 92 then (match r with
      | [] => false
      | _ :: r' => clos c r') else clos c r
/-- no c that is not escaped -/
def nocut (c : UInt8) (l : List UInt8) : Prop := nextP c l = l.length
theorem nextP_le (c : UInt8) : ∀ l, nextP c l ≤ l.length
  | [] => Nat.le_refl _
  | [x] => by
    unfold nextP
    by_cases h : x = c
    · rw [if_pos h]; exact Nat.zero_le _
    · rw [if_neg h]
      by_cases h2 : x = 92
      · rw [if_pos h2]; exact Nat.le_refl _
      · rw [if_neg h2]; simp [nextP]
  | x :: y :: r => by
    unfold nextP
    by_cases h : x = c
    · rw [if_pos h]; exact Nat.zero_le _
    · rw [if_neg h]
      by_cases h2 : x = 92
      · rw [if_pos h2]; have := nextP_le c r; simp; exact this
      · rw [if_neg h2]; have := nextP_le c (y :: r); simp at this ⊢; exact this
theorem nextP_clos (c : UInt8) (b : List UInt8) : ∀ a, clos c a = true → nextP c (a ++ b) = a.length + nextP c b
  | [], _ => by simp
  | [x], h => by
    unfold clos at h
    by_cases h1 : x = c
    · rw [if_pos h1] at h; cases h
    · rw [if_neg h1] at h
      by_cases h2 : x = 92
      · rw [if_pos h2] at h; cases h
      · show nextP c (x :: b) = _
        rw [show nextP c (x :: b) = nextP c b + 1 by conv => lhs; unfold nextP; rw [if_neg h1, if_neg h2]]
        simp; omega
  | x :: y :: r, h => by
    unfold clos at h
    by_cases h1 : x = c
    · rw [if_pos h1] at h; cases h
    · rw [if_neg h1] at h
      by_cases h2 : x = 92
      · rw [if_pos h2] at h
        have := nextP_clos c b r h
        show nextP c (x :: y :: (r ++ b)) = _
        rw [show nextP c (x :: y :: (r ++ b)) = nextP c (r ++ b) + 2 by conv => lhs; unfold nextP; rw [if_neg h1, if_pos h2], this]
        simp; omega
      · rw [if_neg h2] at h
        have := nextP_clos c b (y :: r) h
        show nextP c (x :: (y :: r ++ b)) = _
        rw [show nextP c (x :: (y :: r ++ b)) = nextP c (y :: r ++ b) + 1 by conv => lhs; unfold nextP; rw [if_neg h1, if_neg h2], this]
        simp; omega
theorem clos_app (c : UInt8) (b : List UInt8) (hb : clos c b = true) : ∀ a, clos c a = true → clos c (a ++ b) = true
  | [], _ => hb
  | [x], h => by
    unfold clos at h
    by_cases h1 : x = c
    · rw [if_pos h1] at h; cases h
    · rw [if_neg h1] at h
      by_cases h2 : x = 92
      · rw [if_pos h2] at h; cases h
      · show clos c (x :: b) = true
        unfold clos; rw [if_neg h1, if_neg h2]; exact hb
  | x :: y :: r, h => by
    unfold clos at h
    by_cases h1 : x = c
    · rw [if_pos h1] at h; cases h
    · rw [if_neg h1] at h
      by_cases h2 : x = 92
      · rw [if_pos h2] at h
        show clos c (x :: y :: (r ++ b)) = true
        unfold clos; rw [if_neg h1, if_pos h2]; exact clos_app c b hb r h
      · rw [if_neg h2] at h
        show clos c (x :: (y :: r ++ b)) = true
        unfold clos; rw [if_neg h1, if_neg h2]; exact clos_app c b hb (y :: r) h
theorem nocut_of_clos (c : UInt8) (l : List UInt8) (h : clos c l = true) : nocut c l := by
  have := nextP_clos c [] l h
  rw [List.append_nil] at this
  unfold nocut; rw [this]; rfl
theorem clos_plain (c : UInt8) : ∀ l : List UInt8, (∀ x ∈ l, x ≠ c ∧ x ≠ 92) → clos c l = true
  | [], _ => rfl
  | x :: r, h => by
    have h0 := h x (by simp)
    unfold clos; rw [if_neg h0.1, if_neg h0.2]; exact clos_plain c r (fun y hy => h y (by simp [hy]))
theorem spec4_iff (c : UInt8) : spec4 c = true ↔ c = 44 ∨ c = 61 ∨ c = 43 ∨ c = 92 := by
  unfold spec4; simp [or_assoc]
theorem clos_escV (c : UInt8) (hc : spec4 c = true) (h92 : c ≠ 92) : ∀ l, clos c (escV l) = true
  | [] => rfl
  | x :: r => by
    have ih := clos_escV c hc h92 r
    show clos c (escB x ++ escV r) = true
    unfold escB
    by_cases h : spec4 x = true
    · rw [if_pos h]
      show clos c (92 :: x :: escV r) = true
      unfold clos; rw [if_neg (Ne.symm h92), if_pos rfl]; exact ih
    · rw [if_neg h]
      have h1 : x ≠ c := fun e => h (by rw [e]; exact hc)
      have h2 : x ≠ 92 := fun e => h (by rw [e]; rfl)
      show clos c (x :: escV r) = true
      unfold clos; rw [if_neg h1, if_neg h2]; exact ih
theorem valP_escV : ∀ l, valP (escV l) = some l
  | [] => rfl
  | x :: r => by
    have ih := valP_escV r
    show valP (escB x ++ escV r) = _
    unfold escB
    by_cases h : spec4 x = true
    · rw [if_pos h]
      show valP (92 :: x :: escV r) = _
      unfold valP; rw [if_pos rfl]
      show (if spec4 x = true then (valP (escV r)).map (x :: ·) else none) = _
      rw [if_pos h, ih]; rfl
    · rw [if_neg h]
      have h2 : x ≠ 92 := fun e => h (by rw [e]; rfl)
      have h3 : ¬ (x = 61 ∨ x = 43) := fun e => h (by rcases e with e | e <;> (rw [e]; rfl))
      show valP (x :: escV r) = _
      unfold valP; rw [if_neg h2, if_neg h3, ih]; rfl
/-- where no comma stands that is not escaped, both ways of reading a value are one -/
theorem valQ_valP : ∀ l, nocut 44 l → valQ l = valP l
  | [], _ => rfl
  | [x], h => by
    unfold nocut nextP at h
    by_cases h1 : x = 44
    · rw [if_pos h1] at h; simp at h
    · unfold valQ valP
      by_cases h2 : x = 92
      · rw [if_pos h2, if_pos h2]
      · rw [if_neg h2, if_neg h2]
        by_cases h3 : x = 61 ∨ x = 43
        · rw [if_pos h3, if_pos (by rw [spec4_iff]; rcases h3 with h3 | h3 <;> simp [h3])]
        · rw [if_neg h3, if_neg (by rw [spec4_iff]; simp at h3; simp [h1, h2, h3])]; rfl
  | x :: y :: r, h => by
    unfold nocut nextP at h
    by_cases h1 : x = 44
    · rw [if_pos h1] at h; simp at h
    · rw [if_neg h1] at h
      unfold valQ valP
      by_cases h2 : x = 92
      · rw [if_pos h2] at h
        rw [if_pos h2, if_pos h2]
        show (if spec4 y = true then (valQ r).map (y :: ·) else none) = (if spec4 y = true then (valP r).map (y :: ·) else none)
        rw [valQ_valP r (by unfold nocut; simp at h; exact h)]
      · rw [if_neg h2] at h
        rw [if_neg h2, if_neg h2, valQ_valP (y :: r) (by unfold nocut; simp at h ⊢; exact h)]
        by_cases h3 : x = 61 ∨ x = 43
        · rw [if_pos h3, if_pos (by rw [spec4_iff]; rcases h3 with h3 | h3 <;> simp [h3])]
        · rw [if_neg h3, if_neg (by rw [spec4_iff]; simp at h3; simp [h1, h2, h3])]
/-- what stands before the first c holds none -/
theorem nocut_take (c : UInt8) (hc : c ≠ 92) : ∀ l : List UInt8, nocut c (l.take (nextP c l))
  | [] => by unfold nocut; simp [nextP]
  | [x] => by
    unfold nocut
    conv => lhs; arg 2; arg 1; unfold nextP
    conv => rhs; arg 1; arg 1; unfold nextP
    by_cases h1 : x = c
    · rw [if_pos h1]; simp [nextP]
    · rw [if_neg h1]
      by_cases h2 : x = 92
      · rw [if_pos h2]; simp [nextP, h1, h2]; exact fun e => absurd e.symm hc
      · rw [if_neg h2]; simp [nextP, h1, h2]
  | x :: y :: r => by
    unfold nocut
    conv => lhs; arg 2; arg 1; unfold nextP
    conv => rhs; arg 1; arg 1; unfold nextP
    by_cases h1 : x = c
    · rw [if_pos h1]; simp [nextP]
    · rw [if_neg h1]
      by_cases h2 : x = 92
      · have ih := nocut_take c hc r
        unfold nocut at ih
        rw [if_pos h2]
        show nextP c (x :: y :: r.take (nextP c r)) = (x :: y :: r.take (nextP c r)).length
        rw [show nextP c (x :: y :: r.take (nextP c r)) = nextP c (r.take (nextP c r)) + 2 by conv => lhs; unfold nextP; rw [if_neg h1, if_pos h2], ih]
        simp
      · have ih := nocut_take c hc (y :: r)
        unfold nocut at ih
        rw [if_neg h2]
        show nextP c (x :: (y :: r).take (nextP c (y :: r))) = (x :: (y :: r).take (nextP c (y :: r))).length
        rw [show nextP c (x :: (y :: r).take (nextP c (y :: r))) = nextP c ((y :: r).take (nextP c (y :: r))) + 1 by conv => lhs; unfold nextP; rw [if_neg h1, if_neg h2], ih]
        simp
/-- and so does what stands behind another separator -/
theorem nocut_drop (c d : UInt8) (hd : d ≠ 92) (hcd : c ≠ d) : ∀ l : List UInt8, nocut c l → nextP d l < l.length → nocut c (l.drop (nextP d l + 1))
  | [], _, h => by simp [nextP] at h
  | [x], h, h0 => by
    have : nextP d [x] = 0 := by simp at h0; exact h0
    rw [this]; unfold nocut; simp [nextP]
  | x :: y :: r, h, h0 => by
    have e0 : nextP d (x :: y :: r) = if x = d then 0 else if x = 92 then nextP d r + 2 else nextP d (y :: r) + 1 := by conv => lhs; unfold nextP
    have e1 : nextP c (x :: y :: r) = if x = c then 0 else if x = 92 then nextP c r + 2 else nextP c (y :: r) + 1 := by conv => lhs; unfold nextP
    unfold nocut at h
    rw [e1] at h
    have hxc : x ≠ c := fun e => by rw [if_pos e] at h; simp at h
    rw [if_neg hxc] at h
    rw [e0] at h0 ⊢
    by_cases h1 : x = d
    · rw [if_pos h1]
      have h2 : x ≠ 92 := fun e => hd (h1.symm.trans e)
      rw [if_neg h2] at h
      unfold nocut; simp at h ⊢; exact h
    · rw [if_neg h1] at h0 ⊢
      by_cases h2 : x = 92
      · rw [if_pos h2] at h h0 ⊢
        have := nocut_drop c d hd hcd r (by unfold nocut; simp at h; exact h) (by simp at h0; exact h0)
        simpa using this
      · rw [if_neg h2] at h h0 ⊢
        have := nocut_drop c d hd hcd (y :: r) (by unfold nocut; simp at h ⊢; exact h) (by simp at h0 ⊢; exact h0)
        simpa using this
theorem nocut_pre (c : UInt8) : ∀ a b : List UInt8, nocut c (a ++ b) → nocut c a
  | [], _, _ => by unfold nocut; simp [nextP]
  | [x], b, h => by
    unfold nocut at *
    have e1 : nextP c ([x] ++ b) = nextP c (x :: b) := rfl
    by_cases h1 : x = c
    · rw [e1] at h
      unfold nextP at h
      rw [if_pos h1] at h; simp at h
    · have e : nextP c [x] = if x = c then 0 else if x = 92 then 1 else nextP c [] + 1 := by conv => lhs; unfold nextP
      rw [e, if_neg h1]
      split <;> simp [nextP]
  | x :: y :: r, b, h => by
    have e0 : ∀ m, nextP c (x :: y :: m) = if x = c then 0 else if x = 92 then nextP c m + 2 else nextP c (y :: m) + 1 := fun m => by conv => lhs; unfold nextP
    unfold nocut at h ⊢
    rw [List.cons_append, List.cons_append, e0] at h
    rw [e0]
    by_cases h1 : x = c
    · rw [if_pos h1] at h; simp at h
    · rw [if_neg h1] at h ⊢
      by_cases h2 : x = 92
      · rw [if_pos h2] at h ⊢
        have := nocut_pre c r b (by unfold nocut; simp at h ⊢; omega)
        unfold nocut at this; rw [this]; rfl
      · rw [if_neg h2] at h ⊢
        have := nocut_pre c (y :: r) b (by unfold nocut; simp at h ⊢; omega)
        unfold nocut at this; rw [this]; rfl
theorem nocut_32 (c : UInt8) (hc : c ≠ 32) (l : List UInt8) (h : nocut c (32 :: l)) : nocut c l := by
  unfold nocut at *
  have e : nextP c (32 :: l) = nextP c l + 1 := by conv => lhs; unfold nextP; rw [if_neg (fun e => hc e.symm), if_neg (by decide)]
  rw [e] at h
  simpa using h
theorem nocut_left (c : UInt8) (hc : c ≠ 32) : ∀ l : List UInt8, nocut c l → nocut c (Lib.trimLeftB l 32)
  | [], h => h
  | x :: l, h => by
    unfold Lib.trimLeftB
    rw [List.dropWhile_cons]
    by_cases hx : (x == 32) = true
    · rw [if_pos hx]
      have e : x = 32 := by simpa using hx
      rw [e] at h
      exact nocut_left c hc l (nocut_32 c hc l h)
    · rw [if_neg hx]; exact h
theorem nocut_right (c : UInt8) (l : List UInt8) (h : nocut c l) : nocut c (Lib.trimRightB l 32) := by
  refine nocut_pre c _ (l.reverse.takeWhile (· == 32)).reverse ?_
  have e : Lib.trimRightB l 32 ++ (l.reverse.takeWhile (· == 32)).reverse = l := by
    unfold Lib.trimRightB
    rw [← List.reverse_append, List.takeWhile_append_dropWhile, List.reverse_reverse]
  rw [e]; exact h
theorem nocut_trim (c : UInt8) (hc : c ≠ 32) (l : List UInt8) (h : nocut c l) : nocut c (trimR l) := by
  unfold trimR; exact nocut_right c _ (nocut_left c hc l h)
/-- the pieces between the c that are not escaped -/
def headOn (a : List UInt8) : List (List UInt8) → List (List UInt8)
  | [] => [a]
  | p :: ps => (a ++ p) :: ps
def pieces (c : UInt8) : List UInt8 → List (List UInt8)
  | [] => [[]]
  | x :: r => if x = c then [] :: pieces c r else if x = 92 then (match r with
      | [] => [[x]]
      | y :: r' => headOn [x, y] (pieces c r')) else headOn [x] (pieces c r)
theorem pieces_cut (c : UInt8) : ∀ l, pieces c l = l.take (nextP c l) :: (if nextP c l < l.length then pieces c (l.drop (nextP c l + 1)) else [])
  | [] => by simp [pieces, nextP]
  | [x] => by
    unfold pieces
    conv => rhs; unfold nextP
    by_cases h1 : x = c
    · rw [if_pos h1, if_pos h1]; simp [pieces]
    · rw [if_neg h1, if_neg h1]
      by_cases h2 : x = 92
      · rw [if_pos h2, if_pos h2]; simp
      · rw [if_neg h2, if_neg h2]; simp [pieces, nextP, headOn]
  | x :: y :: r => by
    have e1 : nextP c (x :: y :: r) = if x = c then 0 else if x = 92 then nextP c r + 2 else nextP c (y :: r) + 1 := by conv => lhs; unfold nextP
    have e2 : pieces c (x :: y :: r) = if x = c then [] :: pieces c (y :: r) else if x = 92 then headOn [x, y] (pieces c r) else headOn [x] (pieces c (y :: r)) := by conv => lhs; unfold pieces
    rw [e1, e2]
    by_cases h1 : x = c
    · rw [if_pos h1, if_pos h1]; simp
    · rw [if_neg h1, if_neg h1]
      by_cases h2 : x = 92
      · rw [if_pos h2, if_pos h2, pieces_cut c r]; simp [headOn]
      · rw [if_neg h2, if_neg h2, pieces_cut c (y :: r)]; simp [headOn]
end Nam
end Go.Proofs.YtmmdaegdkikkpaaGreatDoor
end

section
/-
  Plain functions for distinguished names: what Parse, Format, Clean and the pieces of them return; that a normal form is read back; that upper and lower case does not matter. No condition.
-/
set_option maxRecDepth 100000
namespace Go.Proofs.YtmmdaegdkikkpaaGreatDoor
namespace Nam
open Go.PlainAid
abbrev Pr := ByteArray × ByteArray
def ofB (l : List UInt8) : ByteArray := ⟨l.toArray⟩
theorem ofB_data (l : List UInt8) : (ofB l).data.toList = l := rfl
theorem data_ofB (s : ByteArray) : ofB s.data.toList = s := Lib.mk_data s
theorem ofB_size (l : List UInt8) : (ofB l).size = l.length := by rw [Lib.size_eq]; rfl
/-! ### a component -/
def rawK (p : ByteArray) : ByteArray := trimS (tk p (nextP 61 p.data.toList))
def rawV (p : ByteArray) : ByteArray := trimS (dr p (nextP 61 p.data.toList + 1))
def prE (p : Pr) : Int := if nameB p.1 = false then 5 else if cleanB p.2 = false then 8 else 0
def compE (p : ByteArray) : Int := if nextP 61 p.data.toList < p.size then (match valP (rawV p).data.toList with
  | some v => prE (rawK p, ofB v)
  | none => 4) else 4
def compV (p : ByteArray) : Pr := (rawK p, ofB ((valP (rawV p).data.toList).getD []))
def nilPr : Pr := (ByteArray.empty, ByteArray.empty)
/-- what 'component' returns -/
def compR (p : ByteArray) : Pr := if compE p = 0 then compV p else nilPr
theorem compE_ok {p : ByteArray} (h : compE p = 0) : nextP 61 p.data.toList < p.size ∧ valP (rawV p).data.toList = some (compV p).2.data.toList ∧ prE (compV p) = 0 := by
  unfold compE at h
  by_cases h1 : nextP 61 p.data.toList < p.size
  · rw [if_pos h1] at h
    cases e : valP (rawV p).data.toList with
    | none => rw [e] at h; simp at h
    | some v =>
      rw [e] at h
      unfold compV
      rw [e]
      exact ⟨h1, rfl, h⟩
  · rw [if_neg h1] at h; simp at h
/-! ### Parse -/
def firstE : List ByteArray → Int
  | [] => 0
  | p :: r => if compE p = 0 then firstE r else compE p
def piecesS (s : ByteArray) : List ByteArray := if s.size = 0 then [] else (pieces 44 s.data.toList).map ofB
def parseE (s : ByteArray) : Int := if firstE (piecesS s) = 0 then (if 8 < (piecesS s).length then 3 else 0) else firstE (piecesS s)
def parseV (s : ByteArray) : List Pr := if parseE s = 0 then (piecesS s).map compV else []
theorem firstE_app (a b : List ByteArray) (h : firstE a = 0) : firstE (a ++ b) = firstE b := by
  induction a with
  | nil => rfl
  | cons p r ih =>
    unfold firstE at h
    by_cases hp : compE p = 0
    · rw [if_pos hp] at h
      show (if compE p = 0 then firstE (r ++ b) else compE p) = _
      rw [if_pos hp, ih h]
    · rw [if_neg hp] at h; exact absurd h hp
theorem firstE_all {l : List ByteArray} (h : firstE l = 0) : ∀ p ∈ l, compE p = 0 := by
  induction l with
  | nil => intro p hp; cases hp
  | cons q r ih =>
    unfold firstE at h
    by_cases hq : compE q = 0
    · rw [if_pos hq] at h
      intro p hp
      rcases List.mem_cons.1 hp with rfl | hp
      · exact hq
      · exact ih h p hp
    · rw [if_neg hq] at h; exact absurd h hq
theorem firstE_zero {l : List ByteArray} (h : ∀ p ∈ l, compE p = 0) : firstE l = 0 := by
  induction l with
  | nil => rfl
  | cons q r ih => unfold firstE; rw [if_pos (h q (by simp)), ih (fun p hp => h p (by simp [hp]))]
/-! ### Format -/
def fmtC (p : Pr) : List UInt8 := (lowS p.1).data.toList ++ 61 :: escV (foldS p.2).data.toList
def barC : List (List UInt8) → List UInt8
  | [] => []
  | [p] => p
  | p :: q :: r => p ++ 44 :: barC (q :: r)
def fmtFirst : List Pr → Int
  | [] => 0
  | p :: r => if prE p = 0 then fmtFirst r else prE p
def fmtE (l : List Pr) : Int := if fmtFirst l = 0 then (if 8 < l.length then 3 else 0) else fmtFirst l
def fmtV (l : List Pr) : ByteArray := if fmtE l = 0 then ofB (barC (l.map fmtC)) else ByteArray.empty
theorem barC_snoc (p : List UInt8) : ∀ l : List (List UInt8), l ≠ [] → barC (l ++ [p]) = barC l ++ 44 :: p
  | [], h => absurd rfl h
  | [q], _ => rfl
  | q :: r :: t, _ => by
    have ih := barC_snoc p (r :: t) (by simp)
    show q ++ 44 :: barC (r :: t ++ [p]) = (q ++ 44 :: barC (r :: t)) ++ 44 :: p
    rw [ih]; simp
theorem fmtFirst_all {l : List Pr} (h : fmtFirst l = 0) : ∀ p ∈ l, prE p = 0 := by
  induction l with
  | nil => intro p hp; cases hp
  | cons q r ih =>
    unfold fmtFirst at h
    by_cases hq : prE q = 0
    · rw [if_pos hq] at h
      intro p hp
      rcases List.mem_cons.1 hp with rfl | hp
      · exact hq
      · exact ih h p hp
    · rw [if_neg hq] at h; exact absurd h hq
theorem fmtFirst_zero {l : List Pr} (h : ∀ p ∈ l, prE p = 0) : fmtFirst l = 0 := by
  induction l with
  | nil => rfl
  | cons q r ih => unfold fmtFirst; rw [if_pos (h q (by simp)), ih (fun p hp => h p (by simp [hp]))]
theorem fmtE_ok {l : List Pr} (h : fmtE l = 0) : (∀ p ∈ l, prE p = 0) ∧ l.length ≤ 8 := by
  unfold fmtE at h
  by_cases h1 : fmtFirst l = 0
  · rw [if_pos h1] at h
    by_cases h2 : 8 < l.length
    · rw [if_pos h2] at h; cases h
    · exact ⟨fmtFirst_all h1, by omega⟩
  · rw [if_neg h1] at h; exact absurd h h1
theorem fmtE_zero {l : List Pr} (h1 : ∀ p ∈ l, prE p = 0) (h2 : l.length ≤ 8) : fmtE l = 0 := by
  unfold fmtE; rw [if_pos (fmtFirst_zero h1), if_neg (by omega)]
theorem parseE_ok {s : ByteArray} (h : parseE s = 0) : (∀ p ∈ piecesS s, compE p = 0) ∧ (piecesS s).length ≤ 8 := by
  unfold parseE at h
  by_cases h1 : firstE (piecesS s) = 0
  · rw [if_pos h1] at h
    by_cases h2 : 8 < (piecesS s).length
    · rw [if_pos h2] at h; cases h
    · exact ⟨firstE_all h1, by omega⟩
  · rw [if_neg h1] at h; exact absurd h h1
theorem parseV_ok {s : ByteArray} (h : parseE s = 0) : (∀ p ∈ parseV s, prE p = 0) ∧ (parseV s).length ≤ 8 := by
  obtain ⟨h1, h2⟩ := parseE_ok h
  unfold parseV
  rw [if_pos h]
  refine ⟨fun p hp => ?_, by simpa using h2⟩
  obtain ⟨q, hq, rfl⟩ := List.mem_map.1 hp
  exact (compE_ok (h1 q hq)).2.2
theorem fmt_parse_ok {s : ByteArray} (h : parseE s = 0) : fmtE (parseV s) = 0 := fmtE_zero (parseV_ok h).1 (parseV_ok h).2
/-! ### Clean, Valid, the components of a normal form -/
def cleanE (s : ByteArray) : Int := if parseE s = 0 then fmtE (parseV s) else parseE s
def cleanV (s : ByteArray) : ByteArray := if parseE s = 0 then fmtV (parseV s) else ByteArray.empty
def normB (s : ByteArray) : Bool := decide (parseE s = 0) && decide (fmtV (parseV s) = s)
def compsV (s : ByteArray) : List Pr := if normB s then parseV s else []
/-- the pair in normal form -/
def canP (p : Pr) : Pr := (lowS p.1, foldS p.2)
theorem prE_zero (p : Pr) : prE p = 0 ↔ nameB p.1 = true ∧ cleanB p.2 = true := by
  unfold prE
  cases h1 : nameB p.1 <;> cases h2 : cleanB p.2 <;> simp
theorem mem_bt {s : ByteArray} {c : UInt8} (h : c ∈ s.data.toList) : ∃ j, j < s.size ∧ bt s j = (c.toNat : Int) := by
  obtain ⟨j, hj, rfl⟩ := List.getElem_of_mem h
  exact ⟨j, by rw [Lib.size_eq]; exact hj, bt_list s j _ (List.getElem?_eq_getElem hj)⟩
theorem bt_low (s : ByteArray) (j : Nat) : bt (lowS s) j = (if 65 ≤ bt s j ∧ bt s j ≤ 90 then bt s j + 32 else bt s j) := by
  by_cases h : j < s.size
  · obtain ⟨c, hc⟩ : ∃ c, s.data.toList[j]? = some c := ⟨_, List.getElem?_eq_getElem (by rw [← Lib.size_eq]; exact h)⟩
    have h2 : (lowS s).data.toList[j]? = some (lowB c) := by unfold lowS lowL; simp [hc]
    rw [bt_list _ _ _ h2, bt_list _ _ _ hc]
    by_cases hA : 65 ≤ (c.toNat : Int) ∧ (c.toNat : Int) ≤ 90
    · rw [if_pos hA, lowB_hit _ hA.1 hA.2]
    · rw [if_neg hA, lowB_miss _ hA]
  · rw [bt_end s (by omega), bt_end (lowS s) (by rw [lowS_size]; omega)]; rfl
theorem ltrI_low (x : Int) : ltrI (if 65 ≤ x ∧ x ≤ 90 then x + 32 else x) = ltrI x := by
  rw [Bool.eq_iff_iff]; unfold ltrI; simp only [Bool.or_eq_true, Bool.and_eq_true, decide_eq_true_eq]
  split <;> omega
theorem nameP_low (x : Int) : nameP (if 65 ≤ x ∧ x ≤ 90 then x + 32 else x) = nameP x := by
  unfold nameP
  rw [ltrI_low]
  by_cases h : 65 ≤ x ∧ x ≤ 90
  · rw [if_pos h]
    have : ltrI x = true := by unfold ltrI; simp; omega
    rw [this]; rfl
  · rw [if_neg h]
theorem nameB_low (s : ByteArray) : nameB (lowS s) = nameB s := by
  unfold nameB
  rw [lowS_size, bt_low, ltrI_low]
  congr 1
  rw [Bool.eq_iff_iff, allB_iff, allB_iff, lowS_size]
  constructor <;> (intro h j hj; have := h j hj; rw [bt_low, nameP_low] at *; exact this)
theorem prE_can {p : Pr} (h : prE p = 0) : prE (canP p) = 0 := by
  rw [prE_zero] at h ⊢
  exact ⟨by unfold canP; rw [nameB_low]; exact h.1, clean_fold _ h.2⟩
theorem fmtC_can (p : Pr) : fmtC (canP p) = fmtC p := by
  unfold fmtC canP; rw [lowS_low, foldS_fold]
/-- a name's bytes -/
theorem name_bytes {s : ByteArray} (h : nameB s = true) : ∀ c ∈ s.data.toList, c ≠ 44 ∧ c ≠ 61 ∧ c ≠ 92 ∧ c ≠ 32 := by
  intro c hc
  unfold nameB at h
  simp only [Bool.and_eq_true] at h
  obtain ⟨j, hj, e⟩ := mem_bt hc
  have := allB_iff.1 h.2 j hj
  rw [e] at this
  refine ⟨?_, ?_, ?_, ?_⟩ <;> (intro e2; subst e2; exact absurd this (by decide))
theorem name_noSp {s : ByteArray} (h : nameB s = true) : noSp s.data.toList :=
  ⟨fun c hc => (name_bytes h c (List.mem_of_mem_head? hc)).2.2.2, fun c hc => (name_bytes h c (List.mem_of_mem_getLast? hc)).2.2.2⟩
theorem escV_ne {l : List UInt8} (h : l ≠ []) : escV l ≠ [] := by
  cases l with
  | nil => exact absurd rfl h
  | cons c r => show escB c ++ _ ≠ []; unfold escB; split <;> simp
theorem escV_last : ∀ (l : List UInt8) (c : UInt8), (escV l).getLast? = some c → l.getLast? = some c
  | [], c, h => by cases h
  | [x], c, h => by
    have e : escV [x] = escB x := by unfold escV; simp
    rw [e] at h
    unfold escB at h
    split at h <;> simpa using h
  | x :: y :: r, c, h => by
    have e : escV (x :: y :: r) = escB x ++ escV (y :: r) := rfl
    rw [e] at h
    have ih := escV_last (y :: r) c
    have hne := escV_ne (l := y :: r) (by simp)
    rw [List.getLast?_append] at h
    cases e2 : (escV (y :: r)).getLast? with
    | none => exact absurd (List.getLast?_eq_none_iff.1 e2) hne
    | some d =>
      rw [e2] at h ih
      rw [List.getLast?_cons_cons]
      exact ih (by simpa using h)
theorem escV_noSp {l : List UInt8} (h : noSp l) : noSp (escV l) := by
  refine ⟨fun c hc => ?_, fun c hc => h.2 c (escV_last l c hc)⟩
  cases l with
  | nil => cases hc
  | cons x r =>
    have e : escV (x :: r) = escB x ++ escV r := rfl
    rw [e] at hc
    unfold escB at hc
    split at hc
    · simp at hc; subst hc; decide
    · simp at hc; subst hc; exact h.1 x rfl
theorem clos_fmtC {p : Pr} (h : prE p = 0) : clos 44 (fmtC p) = true := by
  have hn := name_bytes (by rw [nameB_low]; exact ((prE_zero p).1 h).1 : nameB (lowS p.1) = true)
  unfold fmtC
  refine clos_app 44 _ ?_ _ (clos_plain 44 _ fun x hx => ⟨(hn x hx).1, (hn x hx).2.2.1⟩)
  show clos 44 (61 :: escV (foldS p.2).data.toList) = true
  unfold clos; rw [if_neg (by decide), if_neg (by decide)]
  exact clos_escV 44 (by decide) (by decide) _
theorem next_fmtC {p : Pr} (h : prE p = 0) : nextP 61 (fmtC p) = (lowS p.1).data.toList.length := by
  have hn := name_bytes (by rw [nameB_low]; exact ((prE_zero p).1 h).1 : nameB (lowS p.1) = true)
  unfold fmtC
  rw [nextP_clos 61 _ _ (clos_plain 61 _ fun x hx => ⟨(hn x hx).2.1, (hn x hx).2.2.1⟩)]
  show _ + nextP 61 (61 :: escV (foldS p.2).data.toList) = _
  unfold nextP; rw [if_pos rfl]; rfl
/-- a component in normal form is read back -/
theorem comp_fmt {p : Pr} (h : prE p = 0) : compE (ofB (fmtC p)) = 0 ∧ compV (ofB (fmtC p)) = canP p := by
  have h0 := (prE_zero p).1 h
  have hk : rawK (ofB (fmtC p)) = lowS p.1 := by
    unfold rawK
    rw [ofB_data, next_fmtC h]
    unfold trimS tk
    rw [ofB_data, data_mk]
    unfold fmtC
    rw [List.take_left, trimR_id (name_noSp (by rw [nameB_low]; exact h0.1)), Lib.mk_data]
  have hv : (rawV (ofB (fmtC p))).data.toList = escV (foldS p.2).data.toList := by
    unfold rawV
    rw [ofB_data, next_fmtC h]
    unfold trimS dr
    rw [ofB_data, data_mk, data_mk]
    unfold fmtC
    rw [← List.drop_drop, List.drop_left]
    show trimR (escV (foldS p.2).data.toList) = _
    rw [foldS_data]
    exact trimR_id (escV_noSp (foldL_noSp _))
  have hc : compV (ofB (fmtC p)) = canP p := by
    unfold compV canP
    rw [hk, hv, valP_escV, Option.getD_some, data_ofB]
  refine ⟨?_, hc⟩
  unfold compE
  rw [if_pos (by rw [ofB_data, next_fmtC h, ofB_size]; unfold fmtC; simp), hv, valP_escV]
  show prE (rawK (ofB (fmtC p)), ofB (foldS p.2).data.toList) = 0
  rw [hk, data_ofB]
  exact prE_can h
theorem barC_pieces : ∀ l : List (List UInt8), l ≠ [] → (∀ p ∈ l, clos 44 p = true) → pieces 44 (barC l) = l
  | [], h, _ => absurd rfl h
  | [p], _, h => by
    have hn := nocut_of_clos 44 p (h p (by simp))
    show pieces 44 p = [p]
    rw [pieces_cut, hn, List.take_length, if_neg (Nat.lt_irrefl _)]
  | p :: q :: r, _, h => by
    have ih := barC_pieces (q :: r) (by simp) (fun x hx => h x (by simp at hx ⊢; exact .inr hx))
    have hp := h p (by simp)
    show pieces 44 (p ++ 44 :: barC (q :: r)) = _
    have hk : nextP 44 (p ++ 44 :: barC (q :: r)) = p.length := by
      rw [nextP_clos 44 _ p hp]
      show _ + nextP 44 (44 :: barC (q :: r)) = _
      unfold nextP; rw [if_pos rfl]; rfl
    rw [pieces_cut, hk, List.take_left, if_pos (by simp), ← List.drop_drop, List.drop_left]
    show p :: pieces 44 (barC (q :: r)) = _
    rw [ih]
theorem fmtC_ne (p : Pr) : fmtC p ≠ [] := by unfold fmtC; simp
theorem barC_ne : ∀ l : List (List UInt8), l ≠ [] → (∀ p ∈ l, p ≠ []) → barC l ≠ []
  | [], h, _ => absurd rfl h
  | [p], _, h => h p (by simp)
  | p :: q :: r, _, h => by show p ++ 44 :: _ ≠ []; simp
theorem pieces_fmt {l : List Pr} (h : ∀ p ∈ l, prE p = 0) : piecesS (ofB (barC (l.map fmtC))) = l.map fun p => ofB (fmtC p) := by
  unfold piecesS
  by_cases hl : l = []
  · subst hl; rfl
  · have h1 : l.map fmtC ≠ [] := by simpa using hl
    have h2 := barC_ne _ h1 (fun p hp => by obtain ⟨q, _, rfl⟩ := List.mem_map.1 hp; exact fmtC_ne q)
    rw [if_neg (by rw [ofB_size]; intro e; exact h2 (List.length_eq_zero_iff.1 e)), ofB_data, barC_pieces _ h1 (fun p hp => by
      obtain ⟨q, hq, rfl⟩ := List.mem_map.1 hp; exact clos_fmtC (h q hq)), List.map_map]
    rfl
/-- the normal form of components is read back -/
theorem parse_fmt {l : List Pr} (h : fmtE l = 0) : parseE (fmtV l) = 0 ∧ parseV (fmtV l) = l.map canP := by
  obtain ⟨h1, h2⟩ := fmtE_ok h
  have hp := pieces_fmt h1
  have hv : fmtV l = ofB (barC (l.map fmtC)) := by unfold fmtV; rw [if_pos h]
  have hE : parseE (fmtV l) = 0 := by
    unfold parseE
    rw [hv, hp, firstE_zero (fun p hq => by obtain ⟨q, hq2, rfl⟩ := List.mem_map.1 hq; exact (comp_fmt (h1 q hq2)).1), if_pos rfl, if_neg (by rw [List.length_map]; omega)]
  refine ⟨hE, ?_⟩
  unfold parseV
  rw [if_pos hE, hv, hp, List.map_map]
  apply List.map_congr_left
  intro q hq
  exact (comp_fmt (h1 q hq)).2
theorem fmt_can {l : List Pr} (h : fmtE l = 0) : fmtE (l.map canP) = 0 ∧ fmtV (l.map canP) = fmtV l := by
  obtain ⟨h1, h2⟩ := fmtE_ok h
  have hE : fmtE (l.map canP) = 0 := fmtE_zero (fun p hp => by obtain ⟨q, hq, rfl⟩ := List.mem_map.1 hp; exact prE_can (h1 q hq)) (by rw [List.length_map]; exact h2)
  refine ⟨hE, ?_⟩
  unfold fmtV
  rw [if_pos hE, if_pos h, List.map_map]
  congr 2
  apply List.map_congr_left
  intro q hq
  exact fmtC_can q
theorem norm_fmt {l : List Pr} (h : fmtE l = 0) : normB (fmtV l) = true := by
  unfold normB
  rw [(parse_fmt h).1, (parse_fmt h).2, (fmt_can h).2]
  simp
theorem norm_iff (s : ByteArray) : normB s = true ↔ parseE s = 0 ∧ fmtV (parseV s) = s := by
  unfold normB; simp
theorem comps_fmt {l : List Pr} (h : fmtE l = 0) : compsV (fmtV l) = l.map canP := by
  unfold compsV; rw [norm_fmt h, if_pos rfl, (parse_fmt h).2]
/-- the components of a normal form -/
structure Comps (l : List Pr) : Prop where
  fine : ∀ p ∈ l, prE p = 0
  few : l.length ≤ 8
  can : l.map canP = l
theorem Comps.fmt {l : List Pr} (h : Comps l) : fmtE l = 0 := fmtE_zero h.fine h.few
theorem comps_norm {s : ByteArray} (h : normB s = true) : Comps (compsV s) ∧ fmtV (compsV s) = s := by
  obtain ⟨h1, h2⟩ := (norm_iff s).1 h
  have h3 := parse_fmt (fmt_parse_ok h1)
  rw [h2] at h3
  unfold compsV
  rw [h, if_pos rfl]
  exact ⟨⟨(parseV_ok h1).1, (parseV_ok h1).2, h3.2.symm⟩, h2⟩
theorem Comps.back {l : List Pr} (h : Comps l) : normB (fmtV l) = true ∧ compsV (fmtV l) = l := ⟨norm_fmt h.fmt, by rw [comps_fmt h.fmt, h.can]⟩
theorem comps_none {s : ByteArray} (h : normB s = false) : compsV s = [] := by unfold compsV; rw [h]; rfl
theorem Comps.drop {l : List Pr} (h : Comps l) (k : Nat) : Comps (l.drop k) :=
  ⟨fun p hp => h.fine p (List.mem_of_mem_drop hp), by rw [List.length_drop]; have := h.few; omega, by rw [List.map_drop, h.can]⟩
theorem Comps.take {l : List Pr} (h : Comps l) (k : Nat) : Comps (l.take k) :=
  ⟨fun p hp => h.fine p (List.mem_of_mem_take hp), by rw [List.length_take]; have := h.few; omega, by rw [List.map_take, h.can]⟩
theorem Comps.app {l m : List Pr} (h : Comps l) (h2 : Comps m) (hn : l.length + m.length ≤ 8) : Comps (l ++ m) :=
  ⟨fun p hp => by rcases List.mem_append.1 hp with hp | hp; exact h.fine p hp; exact h2.fine p hp, by rw [List.length_append]; exact hn, by rw [List.map_append, h.can, h2.can]⟩
theorem compsV_few (s : ByteArray) : (compsV s).length ≤ 8 := by
  cases h : normB s
  · rw [comps_none h]; simp
  · exact (comps_norm h).1.few
end Nam
end Go.Proofs.YtmmdaegdkikkpaaGreatDoor
end

section
/-
  Plain facts on distinguished names: the case of a text does not matter for its normal form; parents, children, renaming; the order. No condition.
-/
set_option maxRecDepth 100000
namespace Go.Proofs.YtmmdaegdkikkpaaGreatDoor
namespace Nam
open Go.PlainAid
/-! ### case -/
/-! ### the family -/
/-! ### the order -/
structure Ord3 {α : Type} (f : α → α → Int) : Prop where
  range : ∀ a b, f a b = -1 ∨ f a b = 0 ∨ f a b = 1
  anti : ∀ a b, f b a = - f a b
  zero : ∀ a b, f a b = 0 ↔ a = b
  trans : ∀ a b c, f a b ≤ 0 → f b c ≤ 0 → f a c ≤ 0
def cmpP (p q : Pr) : Int := if cmpS p.1 q.1 = 0 then cmpS p.2 q.2 else cmpS p.1 q.1
def cmpL : List Pr → List Pr → Int
  | [], [] => 0
  | [], _ :: _ => -1
  | _ :: _, [] => 1
  | p :: a, q :: b => if cmpP p q = 0 then cmpL a b else cmpP p q
def cmpN (a b : ByteArray) : Int := if normB a then (if normB b then cmpL (compsV a).reverse (compsV b).reverse else -1) else (if normB b then 1 else cmpS a b)
theorem cmpS_ord : Ord3 cmpS :=
  ⟨fun a b => cb_range _ _, fun a b => cb_anti _ _, fun a b => by unfold cmpS; rw [cb_zero]; exact ⟨ba_ext, fun e => by rw [e]⟩, fun a b c h1 h2 => cb_trans _ _ _ h1 h2⟩
end Nam
end Go.Proofs.YtmmdaegdkikkpaaGreatDoor
end
