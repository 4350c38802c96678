/-
  Contracts of digest.leaf, pair, joined, partner, leaves and above. Condition: at most 1000 strings of at most 1000 bytes.
-/
import Derived.Test.YtnncfifpgjlpaaaDoorDigStrs
import Derived.Test.YtnncfifpgjlpaaaDoorDigTreeA
import Derived.Deep.RegionLaw
set_option linter.unusedVariables false
set_option linter.unusedSimpArgs false
set_option linter.unnecessarySimpa false
namespace Go.Proofs.YtnncfifpgjlpaaaDoor
open Go.RowKit Go.PlainAid

theorem xor_one (i : Nat) : i ^^^ 1 = mate i := by
  have h1 : (i ^^^ 1) / 2 = i / 2 := by rw [Nat.xor_div_two]; simp
  have h2 : (i ^^^ 1) % 2 = 1 ↔ ¬ (i % 2 = 1) := by rw [Nat.xor_mod_two_eq_one]; simp
  unfold mate
  split
  · have := h2.2 (by omega); omega
  · have : ¬ (i ^^^ 1) % 2 = 1 := fun h => h2.1 h (by omega)
    omega
theorem mate_int (i : Nat) (h : i < 9223372036854775808) : bits .xor .i64 (i : Int) 1 = ((mate i : Nat) : Int) := by
  have hx : i ^^^ 1 < 2 ^ 63 := Nat.xor_lt_two_pow (by omega) (by decide)
  have h1 : (BitVec.ofInt 64 (i : Int)).toNat = i := by
    rw [BitVec.ofInt_natCast, BitVec.toNat_ofNat]; exact Nat.mod_eq_of_lt (by omega)
  show IntKind.i64.wrap ((BitVec.ofInt 64 (i : Int) ^^^ BitVec.ofInt 64 1).toNat : Int) = _
  rw [BitVec.toNat_xor, h1, show (BitVec.ofInt 64 1).toNat = 1 by decide, IntWalk.i64_in _ (by omega), xor_one]
theorem partner_s (i : Nat) (w : World) (h : i < 9223372036854775808) :
    Calls Tryd.prog 41 #[.int .i64 i] w fun e w' => e = .returned (.int .i64 (mate i : Nat)) ∧ w = w' := by
  have hm := mate_int i h
  generalize mate i = m at hm ⊢
  go_enter Tryd.func41, Tryd.ntmps41
  go_wp2
  go_ret
  exact ⟨rfl, rfl⟩
theorem leafQ_size (s : ByteArray) : (leafQ s).size = s.size + 1 := by
  unfold leafQ; rw [ByteArray.size_append]
  have : (⟨#[48]⟩ : ByteArray).size = 1 := rfl
  omega
theorem pairQ_size (a b : ByteArray) : (pairQ a b).size = 1 + a.size + b.size := by
  unfold pairQ; rw [ByteArray.size_append, ByteArray.size_append]; rfl
theorem leafS_size (s : ByteArray) : (leafS s).size = 16 := txtS_size (leafQ s)
theorem pairS_size (a b : ByteArray) : (pairS a b).size = 16 := txtS_size (pairQ a b)
theorem leaf_s (s : ByteArray) (w : World) (hs : s.size ≤ 1000000) :
    Calls Tryd.prog 44 #[.string s] w fun e w' => e = .returned (.string (leafS s)) ∧ Below w.heap.size w w' := by
  obtain ⟨p, HP, zp, ep⟩ : ∃ p : ByteArray, Hid (p = leafQ s) ∧ p.size ≤ 2000000 ∧ (⟨#[48]⟩ : ByteArray) ++ s = p :=
    ⟨_, Lib.hid rfl, by rw [leafQ_size]; omega, rfl⟩
  go_enter Tryd.func44, Tryd.ntmps44
  go_wp2_with fail
  refine (text_s p _ (by omega)).mono ?_
  rintro e w1 ⟨rfl, hb1⟩
  go_wp2_with fail
  go_ret
  exact ⟨by unfold leafS; rw [← HP.out]; rfl, hb1⟩
theorem pair_s (a b : ByteArray) (w : World) (ha : a.size ≤ 1000000) (hb : b.size ≤ 1000000) :
    Calls Tryd.prog 48 #[.string a, .string b] w fun e w' => e = .returned (.string (pairS a b)) ∧ Below w.heap.size w w' := by
  obtain ⟨p, HP, zp, ep⟩ : ∃ p : ByteArray, Hid (p = pairQ a b) ∧ p.size ≤ 3000000 ∧ (⟨#[49]⟩ : ByteArray) ++ a ++ b = p :=
    ⟨_, Lib.hid rfl, by rw [pairQ_size]; omega, rfl⟩
  go_enter Tryd.func48, Tryd.ntmps48
  go_wp2_with fail
  refine (text_s p _ (by omega)).mono ?_
  rintro e w1 ⟨rfl, hb1⟩
  go_wp2_with fail
  go_ret
  exact ⟨by unfold pairS; rw [← HP.out]; rfl, hb1⟩
theorem joined_s (a b : ByteArray) (i : Nat) (w : World) (ha : a.size ≤ 1000000) (hb : b.size ≤ 1000000) (hi : i < 9223372036854775808) :
    Calls Tryd.prog 45 #[.string a, .string b, .int .i64 i] w fun e w' => e = .returned (.string (txtS (joinQ a b i))) ∧ Below w.heap.size w w' := by
  by_cases h : i % 2 = 0
  · have HE := Lib.hid (show txtS (joinQ a b i) = pairS a b by unfold joinQ pairS; rw [if_pos h])
    have d : ((i : Int) % 2 == 0) = true := by rw [beq_iff_eq]; omega
    go_enter Tryd.func45, Tryd.ntmps45
    go_wp2_with fail
    refine (pair_s a b _ ha hb).mono ?_
    rintro e w1 ⟨rfl, hb1⟩
    go_wp2_with fail
    go_ret
    exact ⟨by rw [HE.out]; rfl, hb1⟩
  · have HE := Lib.hid (show txtS (joinQ a b i) = pairS b a by unfold joinQ pairS; rw [if_neg h])
    have d : ((i : Int) % 2 == 0) = false := by rw [beq_eq_false_iff_ne]; omega
    go_enter Tryd.func45, Tryd.ntmps45
    go_wp2_with fail
    refine (pair_s b a _ hb ha).mono ?_
    rintro e w1 ⟨rfl, hb1⟩
    go_wp2_with fail
    go_ret
    exact ⟨by rw [HE.out]; rfl, hb1⟩

/-- the leaves behind k rounds -/
def leafM (ps : List ByteArray) (k : Nat) : List ByteArray := (ps.take k).map leafS ++ List.replicate (ps.length - k) ⟨#[]⟩
theorem leafM_end (ps : List ByteArray) : leafM ps ps.length = ps.map leafS := by unfold leafM; rw [List.take_length, Nat.sub_self, List.replicate_zero, List.append_nil]
theorem leafM_zero (ps : List ByteArray) : leafM ps 0 = List.replicate ps.length ⟨#[]⟩ := by unfold leafM; rw [List.take_zero, List.map_nil, List.nil_append, Nat.sub_zero]
theorem leafM_len (ps : List ByteArray) (k : Nat) (h : k ≤ ps.length) : (leafM ps k).length = ps.length := by
  unfold leafM; rw [List.length_append, List.length_map, List.length_take, List.length_replicate]; omega
theorem leafM_set (ps : List ByteArray) (k : Nat) (h : k < ps.length) : (scells (leafM ps k)).set k (.string (leafS (partAt ps k))) = scells (leafM ps (k + 1)) := by
  unfold scells
  have e : ps.length - k = (ps.length - (k + 1)) + 1 := by omega
  have ht : ps.take (k + 1) = ps.take k ++ [partAt ps k] := by
    unfold partAt
    rw [List.take_succ_eq_append_getElem h, List.getD_eq_getElem?_getD, List.getElem?_eq_getElem h]; rfl
  unfold leafM
  rw [ht, e, List.replicate_succ, List.map_append (f := leafS), List.map_append, List.map_append, List.map_append, List.append_assoc]
  rw [List.set_append_right _ _ (by rw [List.length_map, List.length_map, List.length_take]; omega)]
  rw [List.length_map, List.length_map, List.length_take, show k - min k ps.length = 0 by omega]
  rfl

set_option maxRecDepth 100000 in
set_option maxHeartbeats 2000000 in
theorem leaves_s (ao : Option Addr) (n cap : Nat) (ps : List ByteArray) (w : World) (h : StrsAt w ao n cap ps) (hn : n ≤ 1000) (hp : ∀ j, j < n → (partAt ps j).size ≤ 1000) :
    Calls Tryd.prog 39 #[.slice ao n cap] w fun e w' => (∃ bo dap, e = .returned (.slice bo n dap) ∧ StrsAt w' bo n dap (ps.map leafS)) ∧ Below w.heap.size w w' := by
  have H := Lib.hid h
  have hcn := h.2.1
  have hcm := h.2.2.1
  obtain rfl := h.1
  unfold maxLen at hcm
  clear h
  have HP := Lib.hid hp; clear hp
  obtain ⟨i0, hi0, hz0, hz1, hz2⟩ := info_parts info_string
  go_enter Tryd.func39, Tryd.ntmps39
  go_wp2_with (at_make; go_loud (refine wpList_make_full _ rfl _ _ 35 rfl w.heap.size 9 i0 _ 1 Tryd.underlying35 hi0 hz0 hz1 .i64 .i64 (ps.length : Int) (ps.length : Int) ps.length rfl rfl rfl rfl (by rw [hz2]; omega) (by unfold maxLen; omega) (Nat.le_refl _) ?_); intro w1 hown hg)
  have hb0 : Below w.heap.size w w1 := (Below.refl _ _).grown hg (Nat.le_refl _) (fun k hk => by cases hk)
  have hown0 : w1.ownsRow w.heap.size 9 1 (.slice (some ⟨w.heap.size, 0, none⟩) ps.length ps.length) ps.length (scells (leafM ps 0)) := by
    have e : (madeCells (Value.cells (.string ⟨#[]⟩)) (ps.length * 1)).toList = scells (leafM ps 0) := by
      rw [leafM_zero, Nat.mul_one]
      show (madeCells #[.string ⟨#[]⟩] ps.length).toList = _
      rw [toList_madeCells_one]; simp [scells]
    rw [← e]; exact hown
  clear hown hg
  go_loopw [10] (fun i wr => ∃ k : Nat, k ≤ ps.length ∧ i = .int .i64 k ∧ wr.ownsRow w.heap.size 9 1 (.slice (some ⟨w.heap.size, 0, none⟩) ps.length ps.length) ps.length (scells (leafM ps k)) ∧ Below w.heap.size w wr)
    (fun i _ => ps.length - (intOf i).toNat)
  case atStart => exact ⟨0, Nat.zero_le _, rfl, hown0, hb0⟩
  case round =>
    obtain ⟨k, hk, rfl, hown, hbel⟩ := hrel
    by_cases hlt : k < ps.length
    · obtain ⟨b, off, rfl, hbw, hcells⟩ := H.out.at (by omega)
      have hcell := hcells _ hbel k hlt
      have hsz := HP.out k hlt
      obtain ⟨p, hpe⟩ : ∃ p, p = partAt ps k := ⟨_, rfl⟩
      have HST := Lib.hid (leafM_set ps k hlt)
      rw [← hpe] at hcell hsz HST
      clear hpe hcells
      have hlen : k < (scells (leafM ps k)).length := by unfold scells; rw [List.length_map, leafM_len ps k hk]; exact hlt
      obtain ⟨u, hu⟩ : ∃ u, (scells (leafM ps k))[k]? = some u := ⟨_, List.getElem?_eq_getElem hlen⟩
      have HU := Lib.hid hu; clear hu hlen
      go_wp2_with (go_at_call 44; refine (leaf_s p _ (by omega)).mono ?_; rintro e w2 ⟨rfl, hb2⟩; have hown2 := own_below hown hb2; have c1 : w2.cell? ⟨w.heap.size, k, none⟩ = some u := (hown2.cellAt k (by omega)).trans HU.out; have c2 : w2.frozen? ⟨w.heap.size, k, none⟩ = false := hown2.frozenAt k)
      have hst := hown2.stored k (.string (leafS p))
      rw [HST.out] at hst
      go_roundw
      case rel => exact ⟨k + 1, by omega, by go_num, hst.1, (hbel.trans (hb2.mono hbel.size)).setCell (p := ⟨w.heap.size, k, none⟩) (Nat.le_refl _) _⟩
      case measure => simp [intOf]; omega
    · obtain rfl : k = ps.length := by omega
      rw [leafM_end] at hown
      obtain ⟨bo, dap, e1, hat⟩ := strs_own hown (List.length_map _)
      have HAT : Hid (StrsAt wr (some ⟨w.heap.size, 0, none⟩) ps.length ps.length (ps.map leafS)) := Lib.hid (by cases e1; exact hat)
      clear hat e1
      go_wp2_with fail
      go_ret
      exact ⟨⟨_, _, rfl, HAT.out⟩, hbel⟩

end Go.Proofs.YtnncfifpgjlpaaaDoor
