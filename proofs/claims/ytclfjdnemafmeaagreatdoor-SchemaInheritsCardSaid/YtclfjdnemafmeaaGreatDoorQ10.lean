/-
  Texts of the schema layer and of those beneath it, joined: CodecC, CodecDec, CodecInt, CodecIntP, CodecEsc, CodecREsc, CodecRInt, CodecRInt2. Conditions stand at each contract.
-/
import Derived.Laws.RangeAny
import Derived.Laws.RangeString
import Derived.Lib.RuneCount
import Derived.Lib.AtoiAllCases
import Derived.Lib.LaidTab
import Derived.Deep.RegionHeld3
import Derived.Deep.AppendLies
import Derived.Lib.ItoaLen
import Derived.Test.YtclfjdnemafmeaaGreatDoorQ01
import Derived.Test.YtclfjdnemafmeaaGreatDoorQ09
set_option linter.unusedVariables false
set_option linter.unusedSimpArgs false
set_option linter.unnecessarySimpa false

section
/-
  Plain functions for the text forms of lists: the pieces between the bars, reading them, writing them. No condition.
-/
set_option maxRecDepth 100000
namespace Go.Proofs.YtclfjdnemafmeaaGreatDoor
open Go.PlainAid
/-- the pieces between the bytes b -/
def pieces (b : UInt8) : List UInt8 → List (List UInt8)
  | [] => [[]]
  | c :: l => if c = b then [] :: pieces b l else match pieces b l with
    | p :: r => (c :: p) :: r
    | [] => [[c]]
theorem occ_one (l : List UInt8) (b : UInt8) (i : Nat) : Lib.occAt l [b] i = true ↔ l[i]? = some b := by
  unfold Lib.occAt
  rw [← List.head?_drop]
  cases l.drop i with
  | nil => simp
  | cons c m =>
    simp only [List.isPrefixOf, Bool.and_true, List.head?_cons, Option.some.injEq, beq_iff_eq]
    exact eq_comm
theorem pieces_hit (b : UInt8) : ∀ (l : List UInt8) (i : Nat), l[i]? = some b → (∀ j, j < i → l[j]? ≠ some b) → pieces b l = l.take i :: pieces b (l.drop (i + 1))
  | [], i, h, _ => by simp at h
  | c :: l, 0, h, _ => by
    have : c = b := by simpa using h
    conv => lhs; unfold pieces
    rw [if_pos this]; rfl
  | c :: l, i + 1, h, hn => by
    have hc : c ≠ b := fun e => hn 0 (by omega) (by rw [e]; rfl)
    have ih := pieces_hit b l i (by simpa using h) (fun j hj => by have := hn (j + 1) (by omega); simpa using this)
    conv => lhs; unfold pieces
    rw [if_neg hc, ih]
    rfl
theorem pieces_miss (b : UInt8) : ∀ (l : List UInt8), (∀ j : Nat, l[j]? ≠ some b) → pieces b l = [l]
  | [], _ => rfl
  | c :: l, hn => by
    have hc : c ≠ b := fun e => hn 0 (by rw [e]; rfl)
    have ih := pieces_miss b l (fun j => by have := hn (j + 1); simpa using this)
    unfold pieces
    rw [if_neg hc, ih]
/-- Cut at one byte -/
theorem cut_one (t : ByteArray) (b : UInt8) : (cutOk t ⟨#[b]⟩ = true ∧ pieces b t.data.toList = (cutBef t ⟨#[b]⟩).data.toList :: pieces b (cutAft t ⟨#[b]⟩).data.toList ∧ (cutAft t ⟨#[b]⟩).size < t.size ∧ (cutBef t ⟨#[b]⟩).size ≤ t.size ∧
      (∀ j : Nat, (cutBef t ⟨#[b]⟩).data.toList[j]? ≠ some b)) ∨
    (cutOk t ⟨#[b]⟩ = false ∧ pieces b t.data.toList = [t.data.toList] ∧ cutBef t ⟨#[b]⟩ = t ∧ cutAft t ⟨#[b]⟩ = ⟨#[]⟩) := by
  have e : (⟨#[b]⟩ : ByteArray).data.toList = [b] := rfl
  rcases Lib.index_spec t.data.toList [b] with ⟨hi, hn⟩ | ⟨i, hi, hle, ho, hno⟩
  · refine .inr ?_
    have hcut : Lib.cut t.data.toList (⟨#[b]⟩ : ByteArray).data.toList = (t.data.toList, [], false) := by
      unfold Lib.cut; rw [e, hi]; rfl
    refine ⟨by unfold cutOk; rw [hcut], ?_, ?_, ?_⟩
    · refine pieces_miss b _ (fun j hj => ?_)
      have hlt : j < t.data.toList.length := (List.getElem?_eq_some_iff.1 hj).1
      have := hn j (by omega)
      rw [(occ_one _ _ _).2 hj] at this
      cases this
    · unfold cutBef; rw [hcut]
    · unfold cutAft; rw [hcut]
  · refine .inl ?_
    have hget := (occ_one _ _ _).1 ho
    have hlt : i < t.data.toList.length := (List.getElem?_eq_some_iff.1 hget).1
    have hcut : Lib.cut t.data.toList (⟨#[b]⟩ : ByteArray).data.toList = (t.data.toList.take i, t.data.toList.drop (i + 1), true) := by
      unfold Lib.cut; rw [e, hi, if_pos (by omega)]; simp
    have hno' : ∀ j, j < i → t.data.toList[j]? ≠ some b := fun j hj h => by
      have := hno j hj
      rw [(occ_one _ _ _).2 h] at this
      cases this
    have eb : (cutBef t ⟨#[b]⟩).data.toList = t.data.toList.take i := by unfold cutBef; rw [hcut]
    have ea : (cutAft t ⟨#[b]⟩).data.toList = t.data.toList.drop (i + 1) := by unfold cutAft; rw [hcut]
    refine ⟨by unfold cutOk; rw [hcut], ?_, ?_, ?_, ?_⟩
    · rw [eb, ea]; exact pieces_hit b _ i hget hno'
    · rw [Lib.size_eq, Lib.size_eq t, ea, List.length_drop]; omega
    · rw [Lib.size_eq, Lib.size_eq t, eb, List.length_take]; omega
    · intro j hj
      rw [eb, List.getElem?_take] at hj
      by_cases h : j < i
      · rw [if_pos h] at hj; exact hno' j h hj
      · rw [if_neg h] at hj; cases hj
def ofL (l : List UInt8) : ByteArray := ⟨l.toArray⟩
end Go.Proofs.YtclfjdnemafmeaaGreatDoor
end

section
/-
  Plain functions for decimal forms, and the contract of codec.decimal. Condition: at most 1000000000 bytes.
-/
set_option maxRecDepth 100000
namespace Go.Proofs.YtclfjdnemafmeaaGreatDoor
open Go.RowKit Go.PlainAid
def digB (c : UInt8) : Bool := decide (48 ≤ c.toNat) && decide (c.toNat ≤ 57)
/-- without one leading minus -/
def stripL (l : List UInt8) : List UInt8 := Lib.trimPrefix l [45]
def digsB (l : List UInt8) : Bool := match l with
  | [] => false
  | c :: _ => !(c == 48) && l.all digB
def decB (l : List UInt8) : Bool := decide (l = [48]) || digsB (stripL l)
theorem digs_at {t : ByteArray} (j : Nat) (h : j < t.size) (hd : digB (chr t j) = false) : digsB t.data.toList = false := by
  have hm : chr t j ∈ t.data.toList := by
    unfold chr
    rw [List.getD_eq_getElem?_getD, List.getElem?_eq_getElem (by simpa using h)]
    exact List.getElem_mem _
  have : t.data.toList.all digB = false := by
    rw [List.all_eq_false]
    exact ⟨_, hm, by rw [hd]; simp⟩
  unfold digsB
  split
  · rfl
  · rw [this]; simp
theorem digs_all {t : ByteArray} (h0 : t.data.toList ≠ []) (h1 : chr t 0 ≠ 48) (h : ∀ j, j < t.size → digB (chr t j) = true) : digsB t.data.toList = true := by
  have : t.data.toList.all digB = true := by
    rw [List.all_eq_true]
    intro c hc
    obtain ⟨j, hj, rfl⟩ := List.getElem_of_mem hc
    have := h j (by simpa using hj)
    unfold chr at this
    rw [List.getD_eq_getElem?_getD, List.getElem?_eq_getElem hj] at this
    exact this
  unfold chr at h1
  cases e : t.data.toList with
  | nil => exact absurd e h0
  | cons c r =>
    rw [e] at h1 this
    unfold digsB
    rw [this]
    simpa using h1
theorem digs_zero {t : ByteArray} (h1 : chr t 0 = 48) : digsB t.data.toList = false := by
  unfold chr at h1
  cases e : t.data.toList with
  | nil => rfl
  | cons c r =>
    rw [e] at h1
    have : c = 48 := by simpa using h1
    unfold digsB; rw [this]; rfl
theorem byte_chr (t : ByteArray) (k : Nat) (h : k < t.size) : ((t[k]'h).toNat : Int) = bt t k := by unfold bt; rw [dif_pos h]
/-- one step of a range over a string, at a byte below 128 -/
theorem next_low (w : World) (t : ByteArray) (k : Nat) (h : k < t.size) (hc : bt t k < 128) (ty : TypeId) :
    (Instr.next (.pointer (some ⟨w.heap.size, 0, none⟩)) true ty).run Tryz.prog (w.iter t k) = .ok (.tuple #[.bool true, .int .i64 k, .int .i32 (bt t k)]) (w.iter t (k + 1)) := by
  have hb := byte_chr t k h
  rw [run_next_ascii (P := Tryz.prog) w t k ty h (by omega), hb]
/-- .. and above -/
theorem next_high (w : World) (t : ByteArray) (k : Nat) (h : k < t.size) (hc : 128 ≤ bt t k) : ∃ (r : Int) (d : Nat), 128 ≤ r ∧ 1 ≤ d ∧ (∀ ty,
    (Instr.next (.pointer (some ⟨w.heap.size, 0, none⟩)) true ty).run Tryz.prog (w.iter t k) = .ok (.tuple #[.bool true, .int .i64 k, .int .i32 r]) (w.iter t (k + d))) := by
  have hb := byte_chr t k h
  have hd := decode_high t k h (by omega)
  exact ⟨((Utf8.decode t k).1 : Int), (Utf8.decode t k).2, by omega, hd.2, fun ty => run_next_any (P := Tryz.prog) w t k ty h⟩
theorem below_iter {w : World} {t : ByteArray} {k : Nat} : Below w.heap.size w (w.iter t k) := (Below.refl _ _).alloc (Nat.le_refl _) _
/-- what TrimPrefix leaves -/
def undash (s : ByteArray) : ByteArray := ⟨(Lib.trimPrefix s.data.toList (⟨#[45]⟩ : ByteArray).data.toList).toArray⟩
theorem trim_dash (s t : ByteArray) (w : World) (h : Hid (t = undash s)) :
    Calls Tryz.prog 156 #[.string s, .string ⟨#[45]⟩] w fun e w' => e = .returned (.string t) ∧ w = w' :=
  (Tryz.strings_TrimPrefix _ _ _).mono fun e w' k => ⟨by rw [k.1, h.out]; rfl, k.2.symm⟩
set_option maxRecDepth 100000 in
set_option maxHeartbeats 4000000 in
theorem decimal_s (s : ByteArray) (w : World) (hs : s.size ≤ 1000000000) :
    Calls Tryz.prog 128 #[.string s] w fun e w' => e = .returned (.bool (decB s.data.toList)) ∧ Below w.heap.size w w' := by
  by_cases h1 : s.data.toList = [48]
  · have HE := Lib.hid (show decB s.data.toList = true by unfold decB; simp [h1])
    obtain rfl : s = ⟨#[48]⟩ := by rw [← Lib.mk_data s, h1]
    clear h1
    go_enter Tryz.func128, Tryz.ntmps128
    go_wp2
    go_ret
    exact ⟨by rw [HE.out]; rfl, Below.refl _ _⟩
  · have e1 : (s.toList == [48]) = false := by rw [Lib.toList_data]; simpa using h1
    obtain ⟨t, ht⟩ : ∃ t : ByteArray, t = undash s := ⟨_, rfl⟩
    have hts : t.size ≤ s.size := by
      rw [ht, undash, Lib.size_mk, Lib.size_eq]
      unfold Lib.trimPrefix; split <;> simp
    have HE := Lib.hid (show decB s.data.toList = digsB t.data.toList by unfold decB stripL; rw [ht]; simp [h1, undash])
    have HT := Lib.hid ht
    clear h1 ht
    by_cases h0 : t.size = 0
    · have HF := Lib.hid (show decB s.data.toList = false by
        rw [HE.out]
        have : t.data.toList = [] := List.length_eq_zero_iff.1 (by rw [← Lib.size_eq]; exact h0)
        rw [this]; rfl)
      have hte : t.toList.isEmpty = true := by rw [Lib.toList_data, List.length_eq_zero_iff.1 (show t.data.toList.length = 0 by rw [← Lib.size_eq]; exact h0)]; rfl
      go_enter Tryz.func128, Tryz.ntmps128
      go_wp2_with (go_at_call 156; refine (trim_dash _ _ _ HT).mono ?_; rintro e w' ⟨rfl, rfl⟩)
      go_ret
      exact ⟨by rw [HF.out]; rfl, Below.refl _ _⟩
    · have hte : t.toList.isEmpty = false := by
        rw [Lib.toList_data]
        cases e : t.data.toList with
        | nil => have := Lib.size_eq t; rw [e] at this; exact absurd this h0
        | cons _ _ => rfl
      have hb := get_bt t
      have h00 := bt_nonneg t 0
      have hpos : 0 < t.size := by omega
      by_cases h2 : chr t 0 = 48
      · have HF := Lib.hid (show decB s.data.toList = false by rw [HE.out, digs_zero h2])
        have h3 : (bt t 0 == 48) = true := by rw [bt_chr, h2]; rfl
        clear h2
        go_enter Tryz.func128, Tryz.ntmps128
        go_wp2_with (go_at_call 156; refine (trim_dash _ _ _ HT).mono ?_; rintro e w' ⟨rfl, rfl⟩)
        go_ret
        exact ⟨by rw [HF.out]; rfl, Below.refl _ _⟩
      · have H2 := Lib.hid h2
        have h3 : (bt t 0 == 48) = false := by
          rw [bt_chr]; refine beq_false_of_ne fun e => h2 ?_
          have h4 : (48 : UInt8).toNat = 48 := rfl
          exact UInt8.toNat_inj.1 (by omega)
        clear h2
        go_enter Tryz.func128, Tryz.ntmps128
        go_wp2_with (go_at_call 156; refine (trim_dash _ _ _ HT).mono ?_; rintro e w' ⟨rfl, rfl⟩)
        go_loopw [5] (fun _ wr => ∃ k : Nat, k ≤ t.size ∧ wr = w.iter t k ∧ Hid (∀ j, j < k → digB (chr t j) = true)) (fun _ wr => t.size - wr.iterPos w.heap.size)
        case atStart => exact ⟨0, Nat.zero_le _, rfl, Lib.hid fun j hj => absurd hj (Nat.not_lt_zero _)⟩
        case round =>
          obtain ⟨k, hk, rfl, HA⟩ := hrel
          by_cases hlt : k < t.size
          · have hk0 := bt_nonneg t k
            by_cases h128 : bt t k < 128
            · have hnx := next_low w t k hlt h128
              by_cases d1 : 48 ≤ bt t k
              · by_cases d2 : bt t k ≤ 57
                · have HD := Lib.hid (show digB (chr t k) = true by
                    have := bt_chr t k
                    unfold digB; simp; omega)
                  go_wp2
                  go_roundw
                  case rel => exact ⟨k + 1, by omega, rfl, Lib.hid fun j hj => if e : j = k then by rw [e]; exact HD.out else HA.out j (by omega)⟩
                  case measure => simp; omega
                · have HF := Lib.hid (show decB s.data.toList = false by
                    rw [HE.out]; refine digs_at k hlt ?_
                    have := bt_chr t k
                    unfold digB; simp; omega)
                  go_wp2
                  go_ret
                  exact ⟨by rw [HF.out]; rfl, below_iter⟩
              · have HF := Lib.hid (show decB s.data.toList = false by
                  rw [HE.out]; refine digs_at k hlt ?_
                  have := bt_chr t k
                  unfold digB; simp; omega)
                go_wp2
                go_ret
                exact ⟨by rw [HF.out]; rfl, below_iter⟩
            · obtain ⟨r, d, hr, hd, hnx⟩ := next_high w t k hlt (by omega)
              have HF := Lib.hid (show decB s.data.toList = false by
                rw [HE.out]; refine digs_at k hlt ?_
                have := bt_chr t k
                unfold digB; simp; omega)
              have hr1 : ¬ r < 48 := by omega
              have hr2 : 57 < r := by omega
              go_wp2
              go_ret
              exact ⟨by rw [HF.out]; rfl, below_iter⟩
          · have hnx : ∀ ty, (Instr.next (.pointer (some ⟨w.heap.size, 0, none⟩)) true ty).run Tryz.prog (w.iter t k) = _ := fun ty => run_next_end w t k ty hlt
            have HF := Lib.hid (show decB s.data.toList = true by
              rw [HE.out]
              refine digs_all (fun e => h0 (by rw [Lib.size_eq, e]; rfl)) H2.out (fun j hj => HA.out j (by omega)))
            go_wp2
            go_ret
            exact ⟨by rw [HF.out]; rfl, below_iter⟩
end Go.Proofs.YtclfjdnemafmeaaGreatDoor
end

section
/-
  What strconv's Itoa and Atoi ask of the world, and the contracts of codec.Int and codec.ReadInt. Condition: the library's table of powers and its error lie as the program's text lays them; at most 1000000000 bytes.
-/
set_option maxRecDepth 100000
namespace Go.Proofs.YtclfjdnemafmeaaGreatDoor
open Go.RowKit Go.PlainAid
def IntOk (w : World) : Prop := Lib.TabIs Tryz.prog w "internal/strconv.uint64pow10" .u64 Lib.pow10Tab ∧ ∃ tp p, w.var? Tryz.prog "strconv.ErrRange" = some #[.iface tp p]
theorem var_below {w w' : World} {B : Nat} {n : String} {cs : Array Value} (h : w.var? Tryz.prog n = some cs) (hb : Below B w w') (hB : w.heap.size ≤ B) : w'.var? Tryz.prog n = some cs := by
  unfold World.var? at h ⊢
  cases hg : Tryz.prog.globalNamed n with
  | none => rw [hg] at h; cases h
  | some g =>
    rw [hg] at h
    simp only [Option.bind_some] at h ⊢
    have hlt : g < w.heap.size := by
      rcases Nat.lt_or_ge g w.heap.size with k | k
      · exact k
      · rw [Array.getElem?_eq_none k] at h; cases h
    rw [hb.block g (by omega)]
    exact h
theorem IntOk.below {w w' : World} (h : IntOk w) (hb : Below w.heap.size w w') : IntOk w' :=
  ⟨var_below h.1 hb (Nat.le_refl _), by obtain ⟨tp, p, e⟩ := h.2; exact ⟨tp, p, var_below e hb (Nat.le_refl _)⟩⟩
theorem below_bw (w : World) (e : TypeId) (s : ByteArray) : Below w.heap.size w (Lib.bytesWorld w e s) :=
  ⟨rfl, rfl, rfl, by rw [Lib.bytesWorld_size]; omega, fun j hj => Lib.bytesWorld_at_old w e s j hj⟩
theorem below_grow (w : World) (k : Nat) (os : Array Obj) : Below w.heap.size w (Go.Sort.grow (w.drewN k) os) :=
  ⟨rfl, rfl, rfl, by simp [Go.Sort.grow], fun j hj => by simp [Go.Sort.grow, Array.getElem?_append, hj]⟩
theorem atoi_ok (s : ByteArray) (v : Int) (w : World) (hs : s.size ≤ 1000000000) (h : Lib.atoiAll s.data.toList = .ok v) :
    Calls Tryz.prog 129 #[.string s] w fun e w' => e = .returned (.tuple #[.int .i64 v, .nilIface]) ∧ Below w.heap.size w w' :=
  (Tryz.strconv_Atoi_ok s (by omega) v h w).mono fun e w' k => ⟨k.1, by
    rcases k.2 with rfl | ⟨t, rfl⟩
    · exact Below.refl _ _
    · exact below_bw _ _ _⟩
theorem atoi_range (s : ByteArray) (w : World) (hs : s.size ≤ 1000000000) (h : Lib.atoiAll s.data.toList = .range) (ho : IntOk w) :
    Calls Tryz.prog 129 #[.string s] w fun e w' => (∃ (n : Int) (t : TypeId) (N : Nat), e = .returned (.tuple #[.int .i64 n, .iface t (.pointer (some ⟨N, 0, none⟩))])) ∧ Below w.heap.size w w' := by
  obtain ⟨_, tp, p, hv⟩ := ho
  refine (Tryz.strconv_Atoi_range_var s (by omega) h tp p w hv).mono fun e w' ⟨N, h1, h2, h3, h4⟩ => ⟨⟨_, _, N, h1⟩, h4⟩
theorem itoa_s (n : Int) (w : World) (h0 : -9223372036854775808 ≤ n) (h1 : n ≤ 9223372036854775807) (ho : IntOk w) :
    Calls Tryz.prog 157 #[.int .i64 n] w fun e w' => e = .returned (.string (ofL (Lib.itoa n))) ∧ Below w.heap.size w w' :=
  (Tryz.strconv_Itoa n h0 h1 w ho.1).mono fun e w' ⟨k1, k, os, k2⟩ => ⟨k1, by rw [k2]; exact below_grow w k os⟩
/-- a parse that ends in a number or out of range -/
def Fair {α : Type} (x : Lib.NumEnd α) : Prop := (∃ v, x = .ok v) ∨ x = .range
theorem parse_digits : ∀ (l : List UInt8) (acc : Nat), l.all digB = true → Fair (Lib.parseUint10 acc l)
  | [], acc, _ => .inl ⟨acc, rfl⟩
  | c :: r, acc, h => by
    rw [List.all_cons, Bool.and_eq_true] at h
    have hc : 48 ≤ c.toNat ∧ c.toNat ≤ 57 := by simpa [digB] using h.1
    unfold Lib.parseUint10
    rw [if_pos hc]
    split
    · exact .inr rfl
    · split
      · exact .inr rfl
      · exact parse_digits r _ h.2
theorem mag_digits {l : List UInt8} (h : digsB l = true) : Fair (Lib.parseMag l) := by
  cases l with
  | nil => cases h
  | cons c r =>
    unfold digsB at h
    rw [Bool.and_eq_true] at h
    unfold Lib.parseMag
    rw [if_neg (by simp)]
    exact parse_digits _ _ h.2
theorem signless_fair {x : Lib.NumEnd Nat} (h : Fair x) : Fair (Lib.signless x) := by
  rcases h with ⟨v, rfl⟩ | rfl
  · unfold Lib.signless; dsimp only; split
    · exact .inr rfl
    · exact .inl ⟨_, rfl⟩
  · exact .inr rfl
theorem signed_fair {x : Lib.NumEnd Nat} (h : Fair x) : Fair (Lib.signed x) := by
  rcases h with ⟨v, rfl⟩ | rfl
  · unfold Lib.signed; dsimp only; split
    · exact .inr rfl
    · exact .inl ⟨_, rfl⟩
  · exact .inr rfl
theorem strip_minus (r : List UInt8) : stripL (45 :: r) = r := by simp [stripL, Lib.trimPrefix, Lib.hasPrefix]
theorem strip_plain (c : UInt8) (r : List UInt8) (h : c ≠ 45) : stripL (c :: r) = c :: r := by
  unfold stripL Lib.trimPrefix Lib.hasPrefix
  rw [if_neg]
  simp only [List.isPrefixOf, Bool.and_eq_true, beq_iff_eq]
  rintro ⟨e, _⟩; exact h e.symm
theorem dec_atoi {l : List UInt8} (h : decB l = true) : Fair (Lib.atoiAll l) := by
  unfold decB at h
  rw [Bool.or_eq_true] at h
  rcases h with h | h
  · have : l = [48] := by simpa using h
    rw [this]; exact .inl ⟨0, by decide⟩
  · cases l with
    | nil => cases h
    | cons c r =>
      by_cases hc : c = 45
      · subst hc
        rw [strip_minus] at h
        rw [Lib.atoiAll_minus]
        exact signed_fair (mag_digits h)
      · rw [strip_plain c r hc] at h
        have hd : digB c = true := by
          unfold digsB at h
          simp only [Bool.and_eq_true, List.all_cons] at h
          exact h.2.1
        have h2 : 48 ≤ c.toNat ∧ c.toNat ≤ 57 := by simpa [digB] using hd
        rw [Lib.atoiAll_plain c r (by omega) (by omega)]
        exact signless_fair (mag_digits h)
/-- what ReadInt returns -/
def readI (l : List UInt8) : Int × Int := if decB l then (match Lib.atoiAll l with
  | .ok v => (v, 0)
  | _ => (0, 27)) else (0, 4)
set_option maxRecDepth 100000 in
set_option maxHeartbeats 2000000 in
theorem readInt_s (s : ByteArray) (w : World) (hs : s.size ≤ 1000000000) (ho : IntOk w) :
    Calls Tryz.prog 94 #[.string s] w fun e w' => e = .returned (.tuple #[.int .i64 (readI s.data.toList).1, .int .i64 (readI s.data.toList).2]) ∧ Below w.heap.size w w' := by
  have HO := Lib.hid ho; clear ho
  cases hd : decB s.data.toList
  · have HE := Lib.hid (show readI s.data.toList = (0, 4) by unfold readI; rw [hd]; rfl)
    go_enter Tryz.func94, Tryz.ntmps94
    go_wp2_with (go_at_call 128; refine (decimal_s _ _ hs).mono ?_; rintro e w1 ⟨rfl, hb1⟩; rw [hd])
    go_ret2
    exact ⟨by rw [HE.out]; rfl, hb1⟩
  · rcases dec_atoi hd with ⟨v, ha⟩ | ha
    · have HE := Lib.hid (show readI s.data.toList = (v, 0) by unfold readI; rw [hd, ha]; rfl)
      have HA := Lib.hid ha; clear ha
      go_enter Tryz.func94, Tryz.ntmps94
      go_wp2_with (first
        | (go_at_call 128; refine (decimal_s _ _ hs).mono ?_; rintro e w1 ⟨rfl, hb1⟩; rw [hd])
        | (go_at_call 129; refine (atoi_ok s v _ hs HA.out).mono ?_; rintro e w2 ⟨rfl, hb2⟩))
      go_ret2
      exact ⟨by rw [HE.out]; rfl, hb1.trans (hb2.mono hb1.size)⟩
    · have HE := Lib.hid (show readI s.data.toList = (0, 27) by unfold readI; rw [hd, ha]; rfl)
      have HA := Lib.hid ha; clear ha
      go_enter Tryz.func94, Tryz.ntmps94
      go_wp2_with (first
        | (go_at_call 128; refine (decimal_s _ _ hs).mono ?_; rintro e w1 ⟨rfl, hb1⟩; rw [hd])
        | (go_at_call 129; refine (atoi_range s _ hs HA.out (HO.out.below hb1)).mono ?_; rintro e w2 ⟨⟨n, t, N, rfl⟩, hb2⟩))
      go_ret2
      exact ⟨by rw [HE.out]; rfl, hb1.trans (hb2.mono hb1.size)⟩
set_option maxRecDepth 100000 in
theorem int_s (n : Int) (w : World) (h0 : -9223372036854775808 ≤ n) (h1 : n ≤ 9223372036854775807) (ho : IntOk w) :
    Calls Tryz.prog 123 #[.int .i64 n] w fun e w' => e = .returned (.string (ofL (Lib.itoa n))) ∧ Below w.heap.size w w' := by
  have HO := Lib.hid ho; clear ho
  go_enter Tryz.func123, Tryz.ntmps123
  go_wp2_with (go_at_call 157; refine (itoa_s n _ h0 h1 HO.out).mono ?_; rintro e w1 ⟨rfl, hb1⟩)
  go_ret
  exact ⟨rfl, hb1⟩
end Go.Proofs.YtclfjdnemafmeaaGreatDoor
end

section
/-
  Decimal numerals and their values: what ReadInt returns, by the value of the digits. No condition.
-/
set_option maxRecDepth 100000
namespace Go.Proofs.YtclfjdnemafmeaaGreatDoor
/-- the value of digits behind acc -/
def valA (acc : Nat) (l : List UInt8) : Nat := l.foldl (fun a c => 10 * a + (c.toNat - 48)) acc
def valD (l : List UInt8) : Nat := valA 0 l
theorem valA_cons (a : Nat) (c : UInt8) (l : List UInt8) : valA a (c :: l) = valA (10 * a + (c.toNat - 48)) l := by
  unfold valA
  rw [List.foldl_cons]
theorem valD_snoc (l : List UInt8) (c : UInt8) : valD (l ++ [c]) = 10 * valD l + (c.toNat - 48) := by
  unfold valD valA
  rw [List.foldl_append, List.foldl_cons, List.foldl_nil]
theorem valA_ge : ∀ (l : List UInt8) (a : Nat), a ≤ valA a l
  | [], a => Nat.le_refl _
  | c :: l, a => by rw [valA_cons]; exact Nat.le_trans (by omega) (valA_ge l _)
theorem valD_take_le (l : List UInt8) (k : Nat) : valD (l.take k) ≤ valD l := by
  have h : valD l = valA (valD (l.take k)) (l.drop k) := by
    unfold valD valA
    rw [← List.foldl_append, List.take_append_drop]
  rw [h]; exact valA_ge _ _
theorem digB_bounds {c : UInt8} (h : digB c = true) : 48 ≤ c.toNat ∧ c.toNat ≤ 57 := by simpa [digB] using h
theorem parse_val : ∀ (l : List UInt8) (acc : Nat), acc < 18446744073709551616 → l.all digB = true →
    Lib.parseUint10 acc l = if valA acc l < 18446744073709551616 then .ok (valA acc l) else .range
  | [], acc, ha, h => by rw [if_pos (show valA acc [] < _ from ha)]; rfl
  | c :: r, acc, ha, h => by
    rw [List.all_cons, Bool.and_eq_true] at h
    have hc := digB_bounds h.1
    have hg := valA_ge r (10 * acc + (c.toNat - 48))
    unfold Lib.parseUint10
    rw [if_pos hc, valA_cons]
    split
    · rw [if_neg (by omega)]
    · split
      · rw [if_neg (by omega)]
      · rw [Nat.mul_comm acc 10]
        exact parse_val r _ (by omega) h.2
theorem digs_parts {l : List UInt8} (h : digsB l = true) : l ≠ [] ∧ l.all digB = true := by
  cases l with
  | nil => cases h
  | cons c r =>
    unfold digsB at h
    rw [Bool.and_eq_true] at h
    exact ⟨by simp, h.2⟩
theorem mag_val {l : List UInt8} (h : digsB l = true) : Lib.parseMag l = if valD l < 18446744073709551616 then .ok (valD l) else .range := by
  unfold Lib.parseMag
  rw [if_neg (digs_parts h).1]
  exact parse_val l 0 (by omega) (digs_parts h).2
theorem digs_head {c : UInt8} {r : List UInt8} (h : digsB (c :: r) = true) : 49 ≤ c.toNat ∧ c.toNat ≤ 57 := by
  unfold digsB at h
  simp only [Bool.and_eq_true, List.all_cons] at h
  have := digB_bounds h.2.1
  have hne : c ≠ 48 := by simpa using h.1
  have hn : c.toNat ≠ 48 := fun e => hne (UInt8.toNat_inj.1 e)
  omega
theorem dec_plain {l : List UInt8} (h : digsB l = true) : decB l = true := by
  cases l with
  | nil => cases h
  | cons c r =>
    have := digs_head h
    unfold decB
    rw [strip_plain c r (fun e => by have h4 : (45 : UInt8).toNat = 45 := rfl; rw [e] at this; omega), h, Bool.or_true]
theorem dec_minus {r : List UInt8} : decB (45 :: r) = digsB r := by
  unfold decB
  rw [strip_minus]
  have : decide ((45 : UInt8) :: r = [48]) = false := decide_eq_false (by intro e; injection e with e1 _; exact absurd e1 (by decide))
  rw [this, Bool.false_or]
theorem signless_small {u : Nat} (h : u < 9223372036854775808) : Lib.signless (.ok u) = .ok (u : Int) := by unfold Lib.signless; dsimp only; rw [if_neg (by omega)]
theorem signless_big {u : Nat} (h : ¬ u < 9223372036854775808) : Lib.signless (.ok u) = .range := by unfold Lib.signless; dsimp only; rw [if_pos (by omega)]
theorem signed_small {u : Nat} (h : u ≤ 9223372036854775808) : Lib.signed (.ok u) = .ok (-(u : Int)) := by unfold Lib.signed; dsimp only; rw [if_neg (by omega)]
theorem signed_big {u : Nat} (h : ¬ u ≤ 9223372036854775808) : Lib.signed (.ok u) = .range := by unfold Lib.signed; dsimp only; rw [if_pos (by omega)]
theorem readI_plain {l : List UInt8} (h : digsB l = true) : readI l = if valD l < 9223372036854775808 then ((valD l : Int), 0) else (0, 27) := by
  unfold readI
  rw [dec_plain h, if_pos rfl]
  cases l with
  | nil => cases h
  | cons c r =>
    have hd := digs_head h
    rw [Lib.atoiAll_plain c r (by omega) (by omega), mag_val h]
    by_cases h1 : valD (c :: r) < 9223372036854775808
    · rw [if_pos h1, if_pos (by omega), signless_small h1]
    · rw [if_neg h1]
      by_cases h2 : valD (c :: r) < 18446744073709551616
      · rw [if_pos h2, signless_big h1]
      · rw [if_neg h2]; rfl
theorem readI_minus {r : List UInt8} (h : digsB r = true) : readI (45 :: r) = if valD r ≤ 9223372036854775808 then (-(valD r : Int), 0) else (0, 27) := by
  unfold readI
  rw [dec_minus, h, if_pos rfl, Lib.atoiAll_minus, mag_val h]
  by_cases h1 : valD r ≤ 9223372036854775808
  · rw [if_pos h1, if_pos (by omega), signed_small h1]
  · rw [if_neg h1]
    by_cases h2 : valD r < 18446744073709551616
    · rw [if_pos h2, signed_big h1]
    · rw [if_neg h2]; rfl
theorem readI_bad {l : List UInt8} (h : decB l = false) : readI l = (0, 4) := by unfold readI; rw [h]; rfl
theorem readI_zero : readI [48] = (0, 0) := by decide
end Go.Proofs.YtclfjdnemafmeaaGreatDoor
end

section
/-
  Contracts of codec.plain and codec.Escape, and of the specification's. Condition: at most 1000000000 bytes.
-/
set_option maxRecDepth 100000
namespace Go.Proofs.YtclfjdnemafmeaaGreatDoor
open Go.RowKit Go.PlainAid
end Go.Proofs.YtclfjdnemafmeaaGreatDoor
end

section
/-
  Contracts of the specification's plain and Escape. Condition: at most 1000000000 bytes.
-/
set_option maxRecDepth 100000
namespace Go.Proofs.YtclfjdnemafmeaaGreatDoor
open Go.RowKit Go.PlainAid
end Go.Proofs.YtclfjdnemafmeaaGreatDoor
end

section
/-
  Contracts of the specification's decimal, ReadInt and Int. Condition: at most 1000000000 bytes; an int.
-/
set_option maxRecDepth 100000
namespace Go.Proofs.YtclfjdnemafmeaaGreatDoor
open Go.RowKit Go.PlainAid
theorem all_get {t : ByteArray} (h : t.data.toList.all digB = true) (j : Nat) (hj : j < t.size) : 48 ≤ bt t j ∧ bt t j ≤ 57 := by
  have hm : chr t j ∈ t.data.toList := by
    unfold chr
    rw [List.getD_eq_getElem?_getD, List.getElem?_eq_getElem (by simpa using hj)]
    exact List.getElem_mem _
  have := digB_bounds (List.all_eq_true.1 h _ hm)
  rw [bt_chr]; omega
theorem get_all {t : ByteArray} (h : ∀ j, j < t.size → digB (chr t j) = true) : t.data.toList.all digB = true := by
  rw [List.all_eq_true]
  intro c hc
  obtain ⟨j, hj, rfl⟩ := List.getElem_of_mem hc
  have := h j (by simpa using hj)
  unfold chr at this
  rw [List.getD_eq_getElem?_getD, List.getElem?_eq_getElem hj] at this
  exact this
theorem all_bad {t : ByteArray} (j : Nat) (h : j < t.size) (hd : digB (chr t j) = false) : t.data.toList.all digB = false := by
  rw [List.all_eq_false]
  refine ⟨chr t j, ?_, by rw [hd]; simp⟩
  unfold chr
  rw [List.getD_eq_getElem?_getD, List.getElem?_eq_getElem (by simpa using h)]
  exact List.getElem_mem _
theorem digs_other {t : ByteArray} (h0 : t.size ≠ 0) (h1 : chr t 0 ≠ 48) : digsB t.data.toList = t.data.toList.all digB := by
  unfold chr at h1
  cases e : t.data.toList with
  | nil => exact absurd (show t.size = 0 by rw [Lib.size_eq, e]; rfl) h0
  | cons c r =>
    rw [e] at h1
    unfold digsB
    have : (c == 48) = false := by simpa using h1
    dsimp only
    rw [this]; rfl
set_option maxRecDepth 100000 in
set_option maxHeartbeats 4000000 in
theorem rdecimal_s (t : ByteArray) (z r : Bool) (w : World) (hs : t.size ≤ 1000000000) (hr : (digsB t.data.toList || (z && decide (t.data.toList = [48]))) = r) :
    Calls Tryz.prog 137 #[.string t, .bool z] w fun e w' => e = .returned (.bool r) ∧ w = w' := by
  have HR := Lib.hid hr; clear hr
  have hb := get_bt t
  by_cases h0 : t.size = 0
  · have HF := Lib.hid (show r = false by
      rw [← HR.out, List.length_eq_zero_iff.1 (show t.data.toList.length = 0 by rw [← Lib.size_eq]; exact h0)]; cases z <;> rfl)
    have e0 : ((t.size : Int) == 0) = true := beq_iff_eq.2 (by omega)
    go_enter Tryz.func137, Tryz.ntmps137
    go_wp2
    go_ret
    exact ⟨by rw [HF.out]; rfl, rfl⟩
  · have hpos : 0 < t.size := by omega
    have e0 : ((t.size : Int) == 0) = false := beq_false_of_ne (by omega)
    have h00 := bt_nonneg t 0
    have hone : t.data.toList = [48] ↔ chr t 0 = 48 ∧ t.size = 1 := by
      rw [Lib.size_eq]; unfold chr
      cases e : t.data.toList with
      | nil => simp
      | cons c l => cases l <;> simp
    by_cases hg : chr t 0 = 48 ∧ (1 < t.size ∨ z = false)
    · have h3 : (bt t 0 == 48) = true := by rw [bt_chr, hg.1]; rfl
      have HF := Lib.hid (show r = false by
        rw [← HR.out, digs_zero hg.1, Bool.false_or]
        rcases hg.2 with k | k
        · rw [decide_eq_false (fun e => by have := (hone.1 e).2; omega), Bool.and_false]
        · rw [k]; rfl)
      rcases hg.2 with k | rfl
      · have g1 : (1 : Int) < (t.size : Int) := by omega
        clear hg hone
        go_enter Tryz.func137, Tryz.ntmps137
        go_wp2
        go_ret
        exact ⟨by rw [HF.out]; rfl, rfl⟩
      · clear hg hone
        by_cases k : 1 < t.size
        · have g1 : (1 : Int) < (t.size : Int) := by omega
          go_enter Tryz.func137, Tryz.ntmps137
          go_wp2
          go_ret
          exact ⟨by rw [HF.out]; rfl, rfl⟩
        · have g1 : ¬ (1 : Int) < (t.size : Int) := by omega
          go_enter Tryz.func137, Tryz.ntmps137
          go_wp2
          go_ret
          exact ⟨by rw [HF.out]; rfl, rfl⟩
    · have HE : Hid (r = t.data.toList.all digB) := Lib.hid (by
        rw [← HR.out]
        by_cases k : chr t 0 = 48
        · have k1 : t.size = 1 := by
            rcases Nat.lt_or_ge 1 t.size with x | x
            · exact absurd ⟨k, .inl x⟩ hg
            · omega
          have k2 : z = true := by
            cases z
            · exact absurd ⟨k, .inr rfl⟩ hg
            · rfl
          rw [k2, hone.2 ⟨k, k1⟩]; decide
        · rw [digs_other (by omega) k, decide_eq_false (fun e => k (hone.1 e).1), Bool.and_false, Bool.or_false])
      rcases (show (bt t 0 == 48) = false ∨ ((bt t 0 == 48) = true ∧ ¬ (1 : Int) < (t.size : Int) ∧ z = true) by
        by_cases k : chr t 0 = 48
        · refine .inr ⟨by rw [bt_chr, k]; rfl, ?_, ?_⟩
          · intro x; exact hg ⟨k, .inl (by omega)⟩
          · cases z
            · exact absurd ⟨k, .inr rfl⟩ hg
            · rfl
        · refine .inl (beq_false_of_ne fun e => k ?_)
          rw [bt_chr] at e
          have h4 : (48 : UInt8).toNat = 48 := rfl
          exact UInt8.toNat_inj.1 (by omega)) with h3 | ⟨h3, g1, rfl⟩
      all_goals
        clear hg hone
        go_enter Tryz.func137, Tryz.ntmps137
        go_wp2
        go_loop [5] (fun i => ∃ k : Nat, k ≤ t.size ∧ i = .int .i64 k ∧ Hid (∀ j, j < k → digB (chr t j) = true)) (fun i => t.size - (intOf i).toNat)
        case atStart => exact ⟨0, Nat.zero_le _, rfl, Lib.hid fun j hj => absurd hj (Nat.not_lt_zero _)⟩
        case round =>
          obtain ⟨k, hk, rfl, HA⟩ := hrel
          by_cases hlt : k < t.size
          · have hk0 := bt_nonneg t k
            by_cases d1 : 48 ≤ bt t k
            · by_cases d2 : bt t k ≤ 57
              · have HD := Lib.hid (show digB (chr t k) = true by
                  have := bt_chr t k
                  unfold digB; simp; omega)
                go_wp2
                go_round
                case rel => exact ⟨k + 1, by omega, by go_num, Lib.hid fun j hj => if e : j = k then by rw [e]; exact HD.out else HA.out j (by omega)⟩
                case measure => simp [intOf]; omega
              · have HF := Lib.hid (show r = false by
                  rw [HE.out]; refine all_bad k hlt ?_
                  have := bt_chr t k
                  unfold digB; simp; omega)
                have d3 : 57 < bt t k := by omega
                go_wp2
                go_ret
                exact ⟨by rw [HF.out]; rfl, rfl⟩
            · have HF := Lib.hid (show r = false by
                rw [HE.out]; refine all_bad k hlt ?_
                have := bt_chr t k
                unfold digB; simp; omega)
              have d3 : bt t k < 48 := by omega
              go_wp2
              go_ret
              exact ⟨by rw [HF.out]; rfl, rfl⟩
          · have HF := Lib.hid (show r = true by
              rw [HE.out]; exact get_all fun j hj => HA.out j (by omega))
            go_wp2
            go_ret
            exact ⟨by rw [HF.out]; rfl, rfl⟩
/-- the digits read so far -/
theorem val_step (t : ByteArray) (k : Nat) (h : k < t.size) : valD (t.data.toList.take (k + 1)) = 10 * valD (t.data.toList.take k) + ((chr t k).toNat - 48) := by
  have e : t.data.toList.take (k + 1) = t.data.toList.take k ++ [chr t k] := by
    unfold chr
    rw [List.take_add_one, List.getD_eq_getElem?_getD, List.getElem?_eq_getElem (by simpa using h)]; rfl
  rw [e, valD_snoc]
theorem quo_fact (d : Int) (h0 : 0 ≤ d) (h1 : d ≤ 9) : (-9223372036854775808 + d).tdiv 10 = -((9223372036854775808 - d) / 10) := by
  rw [show (-9223372036854775808 + d) = -(9223372036854775808 - d) by omega, Int.neg_tdiv, Int.tdiv_eq_ediv_of_nonneg (by omega)]
set_option maxRecDepth 100000 in
set_option maxHeartbeats 8000000 in
theorem rreadInt_s (s : ByteArray) (w : World) (hs : s.size ≤ 1000000000) :
    Calls Tryz.prog 100 #[.string s] w fun e w' => e = .returned (.tuple #[.int .i64 (readI s.data.toList).1, .int .i64 (readI s.data.toList).2]) ∧ w = w' := by
  have hbs := get_bt s
  by_cases h0 : s.size = 0
  · have HE := Lib.hid (show readI s.data.toList = (0, 4) by
      rw [List.length_eq_zero_iff.1 (show s.data.toList.length = 0 by rw [← Lib.size_eq]; exact h0)]; decide)
    have hn : s.data.toList = [] := List.length_eq_zero_iff.1 (show s.data.toList.length = 0 by rw [← Lib.size_eq]; exact h0)
    have e0 : ¬ (0 : Int) < (s.size : Int) := by omega
    have HN := Lib.hid hn; clear hn
    go_enter Tryz.func100, Tryz.ntmps100
    go_wp2_with fail
    refine (rdecimal_s s true false _ hs (by rw [HN.out]; rfl)).mono ?_
    rintro e w' ⟨rfl, rfl⟩
    go_wp2
    go_ret2
    exact ⟨by rw [HE.out]; rfl, rfl⟩
  · have hpos : 0 < s.size := by omega
    have e0 : (0 : Int) < (s.size : Int) := by omega
    have h00 := bt_nonneg s 0
    by_cases h2 : chr s 0 = 45
    · have h3 : (bt s 0 == 45) = true := by rw [bt_chr, h2]; rfl
      obtain ⟨t, ht⟩ : ∃ t, t = s.extract 1 s.size := ⟨_, rfl⟩
      have hdt : s.data.toList = 45 :: t.data.toList := by
        have := drop_chr s 0 hpos
        rw [List.drop_zero, h2] at this
        rw [this, ht, Lib.extract_from]
      have hts : t.size + 1 = s.size := by rw [Lib.size_eq s, hdt, List.length_cons, ← Lib.size_eq]
      have HD := Lib.hid hdt; clear hdt h2
      cases hd : digsB t.data.toList
      · have HE := Lib.hid (show readI s.data.toList = (0, 4) by rw [HD.out]; exact readI_bad (by rw [dec_minus, hd]))
        go_enter Tryz.func100, Tryz.ntmps100
        go_wp2_with fail
        rw [← ht]
        refine (rdecimal_s t false false _ (by omega) (by rw [hd]; rfl)).mono ?_
        rintro e w' ⟨rfl, rfl⟩
        go_wp2
        go_ret2
        exact ⟨by rw [HE.out]; rfl, rfl⟩
      · have HE := Lib.hid (show readI s.data.toList = if valD t.data.toList ≤ 9223372036854775808 then (-(valD t.data.toList : Int), 0) else (0, 27) by rw [HD.out]; exact readI_minus hd)
        have HA := Lib.hid (digs_parts hd).2
        have HDT := Lib.hid hd
        have hb := get_bt t
        go_enter Tryz.func100, Tryz.ntmps100
        go_wp2_with fail
        rw [← ht]
        refine (rdecimal_s t false true _ (by omega) (by rw [HDT.out]; rfl)).mono ?_
        rintro e w' ⟨rfl, rfl⟩
        clear ht hd
        go_wp2_with fail
        go_loop [7, 8] (fun n i => ∃ k m : Nat, k ≤ t.size ∧ i = .int .i64 k ∧ n = .int .i64 (-(m : Int)) ∧ m ≤ 9223372036854775808 ∧ Hid (valD (t.data.toList.take k) = m)) (fun _ i => t.size - (intOf i).toNat)
        case atStart => exact ⟨0, 0, Nat.zero_le _, rfl, rfl, by omega, Lib.hid rfl⟩
        case round =>
          obtain ⟨k, m, hk, rfl, rfl, hm, HV⟩ := hrel
          by_cases hlt : k < t.size
          · obtain ⟨d1, d2⟩ := all_get HA.out k hlt
            have HC := Lib.hid (bt_chr t k)
            have HS := Lib.hid (val_step t k hlt)
            have hq := quo_fact (bt t k - 48) (by omega) (by omega)
            by_cases hr : 10 * (m : Int) + (bt t k - 48) ≤ 9223372036854775808
            · have hn : ¬ (-(m : Int)) < -((9223372036854775808 - (bt t k - 48)) / 10) := by omega
              go_wp2
              go_round
              case rel => exact ⟨k + 1, 10 * m + ((chr t k).toNat - 48), by omega, by go_num, by congr 1; have := HC.out; omega, by have := HC.out; omega, Lib.hid (by rw [HS.out, HV.out])⟩
              case measure => simp [intOf]; omega
            · have hn : (-(m : Int)) < -((9223372036854775808 - (bt t k - 48)) / 10) := by omega
              have HF := Lib.hid (show readI s.data.toList = (0, 27) by
                have h1 := valD_take_le t.data.toList (k + 1)
                rw [HS.out, HV.out] at h1
                rw [HE.out, if_neg]
                have := HC.out; omega)
              go_wp2
              go_ret2
              exact ⟨by rw [HF.out]; rfl, rfl⟩
          · have HF := Lib.hid (show readI s.data.toList = (-(m : Int), 0) by
              have hT : t.data.toList.take k = t.data.toList := List.take_of_length_le (by rw [← Lib.size_eq]; omega)
              have h1 := HV.out
              rw [hT] at h1
              rw [HE.out, h1, if_pos hm])
            go_wp2
            go_ret2
            exact ⟨by rw [HF.out]; rfl, rfl⟩
    · have h3 : (bt s 0 == 45) = false := by
        refine beq_false_of_ne fun e => h2 ?_
        rw [bt_chr] at e
        have h4 : (45 : UInt8).toNat = 45 := rfl
        exact UInt8.toNat_inj.1 (by omega)
      have hdec : decB s.data.toList = (digsB s.data.toList || (true && decide (s.data.toList = [48]))) := by
        have hst : stripL s.data.toList = s.data.toList := by
          have := drop_chr s 0 hpos
          rw [List.drop_zero] at this
          rw [this]
          exact strip_plain _ _ h2
        unfold decB
        rw [hst, Bool.true_and, Bool.or_comm]
      clear h2
      have HDE := Lib.hid hdec
      cases hd : decB s.data.toList
      · have HE := Lib.hid (show readI s.data.toList = (0, 4) from readI_bad hd)
        have HK := Lib.hid (hdec.symm.trans hd)
        clear hd hdec
        go_enter Tryz.func100, Tryz.ntmps100
        go_wp2_with fail
        refine (rdecimal_s s true false _ hs HK.out).mono ?_
        rintro e w' ⟨rfl, rfl⟩
        go_wp2
        go_ret2
        exact ⟨by rw [HE.out]; rfl, rfl⟩
      · have hd2 : digsB s.data.toList = true ∨ s.data.toList = [48] := by
          rw [hd] at hdec
          have := hdec.symm
          rw [Bool.or_eq_true, Bool.true_and, decide_eq_true_iff] at this
          exact this
        have HE := Lib.hid (show readI s.data.toList = if valD s.data.toList < 9223372036854775808 then ((valD s.data.toList : Int), 0) else (0, 27) by
          rcases hd2 with k | k
          · exact readI_plain k
          · rw [k]; decide)
        have HA := Lib.hid (show s.data.toList.all digB = true by
          rcases hd2 with k | k
          · exact (digs_parts k).2
          · rw [k]; decide)
        have HK := Lib.hid (hdec.symm.trans hd)
        clear hd hdec hd2
        go_enter Tryz.func100, Tryz.ntmps100
        go_wp2_with fail
        refine (rdecimal_s s true true _ hs HK.out).mono ?_
        rintro e w' ⟨rfl, rfl⟩
        go_wp2_with fail
        go_loop [7, 8] (fun n i => ∃ k m : Nat, k ≤ s.size ∧ i = .int .i64 k ∧ n = .int .i64 (-(m : Int)) ∧ m ≤ 9223372036854775808 ∧ Hid (valD (s.data.toList.take k) = m)) (fun _ i => s.size - (intOf i).toNat)
        case atStart => exact ⟨0, 0, Nat.zero_le _, rfl, rfl, by omega, Lib.hid rfl⟩
        case round =>
          obtain ⟨k, m, hk, rfl, rfl, hm, HV⟩ := hrel
          by_cases hlt : k < s.size
          · obtain ⟨d1, d2⟩ := all_get HA.out k hlt
            have HC := Lib.hid (bt_chr s k)
            have HS := Lib.hid (val_step s k hlt)
            have hq := quo_fact (bt s k - 48) (by omega) (by omega)
            by_cases hr : 10 * (m : Int) + (bt s k - 48) ≤ 9223372036854775808
            · have hn : ¬ (-(m : Int)) < -((9223372036854775808 - (bt s k - 48)) / 10) := by omega
              go_wp2
              go_round
              case rel => exact ⟨k + 1, 10 * m + ((chr s k).toNat - 48), by omega, by go_num, by congr 1; have := HC.out; omega, by have := HC.out; omega, Lib.hid (by rw [HS.out, HV.out])⟩
              case measure => simp [intOf]; omega
            · have hn : (-(m : Int)) < -((9223372036854775808 - (bt s k - 48)) / 10) := by omega
              have HF := Lib.hid (show readI s.data.toList = (0, 27) by
                have h1 := valD_take_le s.data.toList (k + 1)
                rw [HS.out, HV.out] at h1
                rw [HE.out, if_neg]
                have := HC.out; omega)
              go_wp2
              go_ret2
              exact ⟨by rw [HF.out]; rfl, rfl⟩
          · have hT : s.data.toList.take k = s.data.toList := List.take_of_length_le (by rw [← Lib.size_eq]; omega)
            have h1 := HV.out
            rw [hT] at h1
            have H1 := Lib.hid h1
            clear h1 hT
            by_cases hm2 : m = 9223372036854775808
            · have HF := Lib.hid (show readI s.data.toList = (0, 27) by rw [HE.out, H1.out, if_neg (by omega)])
              have hl : ((-(m : Int)) == -9223372036854775808) = true := beq_iff_eq.2 (by omega)
              go_wp2
              go_ret2
              exact ⟨by rw [HF.out]; rfl, rfl⟩
            · have HF := Lib.hid (show readI s.data.toList = ((m : Int), 0) by rw [HE.out, H1.out, if_pos (by omega)])
              have hl : ((-(m : Int)) == -9223372036854775808) = false := beq_false_of_ne (by omega)
              go_wp2
              go_ret2
              exact ⟨by rw [HF.out]; rfl, rfl⟩
end Go.Proofs.YtclfjdnemafmeaaGreatDoor
end

section
/-
  Contract of the specification's Int. Condition: an int.
-/
set_option maxRecDepth 100000
namespace Go.Proofs.YtclfjdnemafmeaaGreatDoor
open Go.RowKit Go.PlainAid
/-- u digits left in front of what is written -/
def IntAt (u0 u : Nat) (o : List UInt8) : Prop := (u = 0 ∧ o = Lib.decDigits u0) ∨ (1 ≤ u ∧ Lib.decDigits u ++ o = Lib.decDigits u0)
theorem intAt_start (u0 : Nat) (h : 1 ≤ u0) : IntAt u0 u0 [] := .inr ⟨h, by simp⟩
theorem intAt_step {u0 u : Nat} {o : List UInt8} (h : IntAt u0 u o) (h1 : 1 ≤ u) : IntAt u0 (u / 10) (UInt8.ofNat (48 + u % 10) :: o) := by
  rcases h with ⟨h2, _⟩ | ⟨_, h2⟩
  · omega
  · by_cases h3 : u < 10
    · rw [Lib.decDigits, dif_pos h3] at h2
      refine .inl ⟨by omega, ?_⟩
      rw [show u % 10 = u by omega]; exact h2
    · rw [Lib.decDigits, dif_neg h3] at h2
      refine .inr ⟨by omega, ?_⟩
      rw [← h2, List.append_assoc]; rfl
theorem intAt_end {u0 : Nat} {o : List UInt8} (h : IntAt u0 0 o) : o = Lib.decDigits u0 := by
  rcases h with ⟨_, h⟩ | ⟨h, _⟩
  · exact h
  · omega
theorem intAt_len {u0 u : Nat} {o : List UInt8} (h : IntAt u0 u o) (hu : u0 < 18446744073709551616) : o.length ≤ 20 := by
  have h2 := Lib.nDigits_le20 u0 hu
  rw [← Lib.decDigits_length] at h2
  rcases h with ⟨_, h⟩ | ⟨_, h⟩
  · rw [h]; exact h2
  · have := congrArg List.length h
    rw [List.length_append] at this
    omega
theorem one_back (wr : World) (b : UInt8) (c : Int) (hc : c = (b.toNat : Int)) :
    (convert 95 9 (.slice (some ⟨wr.heap.size, 0, none⟩) 1 1)).run Tryz.prog (wr.alloc (.cells #[.int .u8 c] 5)) = .ok (.string ⟨#[b]⟩) (wr.alloc (.cells #[.int .u8 c] 5)) := by
  subst hc
  exact run_convert_bytes_back (wr.alloc (.cells #[.int .u8 (b.toNat : Int)] 5)) _ _ _ ⟨wr.heap.size, 0, none⟩ 1 [b] Tryz.underlying95 Tryz.underlying5 Tryz.underlying9
    (fun j hj => by
      have hj0 : j = 0 := by simp at hj; omega
      subst hj0
      exact cell_one_new wr _ _ 0 _ rfl)
theorem neg_rem (u : Nat) : (-(u : Int)).tmod 10 = -((u % 10 : Nat) : Int) := by rw [Int.neg_tmod, Int.tmod_eq_emod_of_nonneg (by omega)]; omega
theorem neg_quo (u : Nat) : (-(u : Int)).tdiv 10 = -((u / 10 : Nat) : Int) := by rw [Int.neg_tdiv, Int.tdiv_eq_ediv_of_nonneg (by omega)]; omega
set_option maxRecDepth 100000 in
set_option maxHeartbeats 4000000 in
theorem rint_s (n : Int) (w : World) (h0 : -9223372036854775808 ≤ n) (h1 : n ≤ 9223372036854775807) :
    Calls Tryz.prog 92 #[.int .i64 n] w fun e w' => e = .returned (.string (ofL (Lib.itoa n))) ∧ Below w.heap.size w w' := by
  by_cases hz : n = 0
  · subst hz
    have HE := Lib.hid (show Lib.itoa 0 = [48] by rw [show (0 : Int) = ((0 : Nat) : Int) from rfl, Lib.itoa_nonneg, Lib.decDigits, dif_pos (by omega)]; rfl)
    go_enter Tryz.func92, Tryz.ntmps92
    go_wp2
    go_ret
    exact ⟨by rw [HE.out]; rfl, Below.refl _ _⟩
  · by_cases hn : n < 0
    · obtain ⟨u0, rfl⟩ : ∃ u : Nat, n = -(u : Int) := ⟨n.natAbs, by omega⟩
      have HE := Lib.hid (Lib.itoa_neg u0 (by omega))
      have hne : ((-(u0 : Int)) == 0) = false := beq_false_of_ne hz
      have hu0 : u0 < 18446744073709551616 := by omega
      have hu1 : u0 ≤ 9223372036854775808 := by omega
      go_enter Tryz.func92, Tryz.ntmps92
      go_wp2_with fail
      go_loopw [3, 4] (fun o m wr => ∃ (u : Nat) (l : List UInt8), u ≤ u0 ∧ m = .int .i64 (-(u : Int)) ∧ o = .string (ofL l) ∧ Hid (IntAt u0 u l) ∧ (ofL l).size ≤ 20 ∧ Below w.heap.size w wr) (fun _ m _ => (intOf m).natAbs)
      case atStart => exact ⟨u0, [], Nat.le_refl _, rfl, rfl, Lib.hid (intAt_start u0 (by omega)), Nat.zero_le _, Below.refl _ _⟩
      case round =>
        obtain ⟨u, l, hu, rfl, rfl, HI, hl, hbel⟩ := hrel
        by_cases hu2 : u = 0
        · subst hu2
          have HF := Lib.hid (intAt_end HI.out)
          have hm : ((-((0 : Nat) : Int)) != 0) = false := rfl
          go_wp2
          go_ret
          exact ⟨by rw [HE.out, HF.out]; rfl, hbel⟩
        · have hm : ((-(u : Int)) != 0) = true := by simp; omega
          have HS := Lib.hid (intAt_step HI.out (by omega))
          have HL := Lib.hid (intAt_len HS.out hu0)
          obtain ⟨d, hd⟩ : ∃ d, d = u % 10 := ⟨_, rfl⟩
          obtain ⟨q, hq⟩ : ∃ q, q = u / 10 := ⟨_, rfl⟩
          have r1 := neg_rem u
          have r2 := neg_quo u
          rw [← hd] at r1
          rw [← hq] at r2
          have hd9 : d ≤ 9 := by omega
          have hqu : q < u := by omega
          have HD := Lib.hid (show (⟨#[UInt8.ofNat (48 + d)]⟩ : ByteArray) ++ ofL l = ofL (UInt8.ofNat (48 + u % 10) :: l) by
            rw [← hd]; apply ByteArray.ext; rw [ByteArray.data_append]; simp [ofL])
          have HQ := Lib.hid hq
          clear hq
          by_cases hd0 : d = 0
          · have hneg : ¬ (-(d : Int)) < 0 := by omega
            have hdz : (d : Int) = 0 := by omega
            rw [hdz] at r1
            have hbk := one_back wr 48 48 rfl
            have HD0 := Lib.hid (show (⟨#[48]⟩ : ByteArray) ++ ofL l = ofL (UInt8.ofNat (48 + u % 10) :: l) by rw [← HD.out, hd0]; rfl)
            clear hd hd0 hdz hneg
            go_wp2
            go_roundw
            case rel => exact ⟨q, UInt8.ofNat (48 + u % 10) :: l, by omega, rfl, by rw [HD0.out], Lib.hid (by rw [HQ.out]; exact HS.out), HL.out, hbel.alloc hbel.size _⟩
            case measure => simp [intOf]; omega
          · have hneg : (-(d : Int)) < 0 := by omega
            have hw : IntKind.u8.wrap (48 + (d : Int)) = 48 + (d : Int) := IntWalk.u8_in _ (by omega)
            obtain ⟨c, hc⟩ : ∃ c, c = UInt8.ofNat (48 + d) := ⟨_, rfl⟩
            rw [← hc] at HD
            have hbk := one_back wr c (48 + (d : Int)) (by rw [hc, UInt8.toNat_ofNat']; omega)
            clear hd hd0 hc
            go_wp2
            go_roundw
            case rel => exact ⟨q, UInt8.ofNat (48 + u % 10) :: l, by omega, rfl, by rw [HD.out], Lib.hid (by rw [HQ.out]; exact HS.out), HL.out, hbel.alloc hbel.size _⟩
            case measure => simp [intOf]; omega
    · obtain ⟨u0, rfl⟩ : ∃ u : Nat, n = (u : Int) := ⟨n.toNat, by omega⟩
      have HE := Lib.hid (Lib.itoa_nonneg u0)
      have hne : ((u0 : Int) == 0) = false := beq_false_of_ne hz
      have hu0 : u0 < 18446744073709551616 := by omega
      have hu1 : u0 ≤ 9223372036854775807 := by omega
      go_enter Tryz.func92, Tryz.ntmps92
      go_wp2_with fail
      go_loopw [3, 4] (fun o m wr => ∃ (u : Nat) (l : List UInt8), u ≤ u0 ∧ m = .int .i64 (u : Int) ∧ o = .string (ofL l) ∧ Hid (IntAt u0 u l) ∧ (ofL l).size ≤ 20 ∧ Below w.heap.size w wr) (fun _ m _ => (intOf m).natAbs)
      case atStart => exact ⟨u0, [], Nat.le_refl _, rfl, rfl, Lib.hid (intAt_start u0 (by omega)), Nat.zero_le _, Below.refl _ _⟩
      case round =>
        obtain ⟨u, l, hu, rfl, rfl, HI, hl, hbel⟩ := hrel
        by_cases hu2 : u = 0
        · subst hu2
          have HF := Lib.hid (intAt_end HI.out)
          have hm : ((((0 : Nat) : Int)) != 0) = false := rfl
          go_wp2
          go_ret
          exact ⟨by rw [HE.out, HF.out]; rfl, hbel⟩
        · have hm : ((u : Int) != 0) = true := by simp; omega
          have HS := Lib.hid (intAt_step HI.out (by omega))
          have HL := Lib.hid (intAt_len HS.out hu0)
          obtain ⟨d, hd⟩ : ∃ d, d = u % 10 := ⟨_, rfl⟩
          obtain ⟨q, hq⟩ : ∃ q, q = u / 10 := ⟨_, rfl⟩
          have r1 : (u : Int).tmod 10 = (d : Int) := by rw [Int.tmod_eq_emod_of_nonneg (by omega)]; omega
          have r2 : (u : Int).tdiv 10 = (q : Int) := by rw [Int.tdiv_eq_ediv_of_nonneg (by omega)]; omega
          have hd9 : d ≤ 9 := by omega
          have hqu : q < u := by omega
          have HD := Lib.hid (show (⟨#[UInt8.ofNat (48 + d)]⟩ : ByteArray) ++ ofL l = ofL (UInt8.ofNat (48 + u % 10) :: l) by
            rw [← hd]; apply ByteArray.ext; rw [ByteArray.data_append]; simp [ofL])
          have HQ := Lib.hid hq
          clear hq
          have hneg : ¬ (d : Int) < 0 := by omega
          have hw : IntKind.u8.wrap (48 + (d : Int)) = 48 + (d : Int) := IntWalk.u8_in _ (by omega)
          obtain ⟨c, hc⟩ : ∃ c, c = UInt8.ofNat (48 + d) := ⟨_, rfl⟩
          rw [← hc] at HD
          have hbk := one_back wr c (48 + (d : Int)) (by rw [hc, UInt8.toNat_ofNat']; omega)
          clear hd hc
          go_wp2
          go_roundw
          case rel => exact ⟨q, UInt8.ofNat (48 + u % 10) :: l, by omega, rfl, by rw [HD.out], Lib.hid (by rw [HQ.out]; exact HS.out), HL.out, hbel.alloc hbel.size _⟩
          case measure => simp [intOf]; omega
end Go.Proofs.YtclfjdnemafmeaaGreatDoor
end
