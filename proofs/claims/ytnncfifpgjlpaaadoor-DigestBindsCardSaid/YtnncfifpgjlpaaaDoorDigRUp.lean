/-
  Contracts of the specification's leaves and up. Condition: at most 1000 strings of at most 1000 bytes.
-/
import Derived.Test.YtnncfifpgjlpaaaDoorDigUp
set_option linter.unusedVariables false
set_option linter.unusedSimpArgs false
set_option linter.unnecessarySimpa false
namespace Go.Proofs.YtnncfifpgjlpaaaDoor
open Go.RowKit Go.PlainAid

theorem leafs_snoc (ps : List ByteArray) (k : Nat) (h : k < ps.length) : scells ((ps.take (k + 1)).map leafS) = scells ((ps.take k).map leafS) ++ [.string (leafS (partAt ps k))] := by
  have ht : ps.take (k + 1) = ps.take k ++ [partAt ps k] := by
    unfold partAt
    rw [List.take_succ_eq_append_getElem h, List.getD_eq_getElem?_getD, List.getElem?_eq_getElem h]; rfl
  rw [ht, List.map_append, ← scells_snoc]; rfl

set_option maxRecDepth 100000 in
set_option maxHeartbeats 4000000 in
theorem rleaves_s (ao : Option Addr) (n cap : Nat) (ps : List ByteArray) (w : World) (h : StrsAt w ao n cap ps) (hn : n ≤ 1000) (hp : ∀ j, j < n → (partAt ps j).size ≤ 1000) :
    Calls Tryd.prog 42 #[.slice ao n cap] w fun e w' => (∃ bo dap, e = .returned (.slice bo n dap) ∧ StrsAt w' bo n dap (ps.map leafS)) ∧ Below w.heap.size w w' := by
  have H := Lib.hid h
  have hcn := h.2.1
  have hcm := h.2.2.1
  obtain rfl := h.1
  unfold maxLen at hcm
  clear h
  have HP := Lib.hid hp; clear hp
  go_enter Tryd.func42, Tryd.ntmps42
  go_wp2
  go_loopw [3, 4] (fun lv i wr => ∃ k : Nat, k ≤ ps.length ∧ i = .int .i64 k ∧ wr.ownsRow w.heap.size 9 1 lv k (scells ((ps.take k).map leafS)) ∧ Below w.heap.size w wr)
    (fun _ i _ => ps.length - (intOf i).toNat)
  case atStart => exact ⟨0, Nat.zero_le _, rfl, World.ownsRow_nil _ _ _ _, Below.refl _ _⟩
  case round =>
    obtain ⟨k, hk, rfl, hown, hbel⟩ := hrel
    by_cases hlt : k < ps.length
    · obtain ⟨b, off, rfl, hbw, hcells⟩ := H.out.at (by omega)
      have hcell := hcells _ hbel k hlt
      have hsz := HP.out k hlt
      have HN := Lib.hid (leafs_snoc ps k hlt)
      obtain ⟨p, hpe⟩ : ∃ p, p = partAt ps k := ⟨_, rfl⟩
      rw [← hpe] at hcell hsz HN
      clear hpe hcells
      have k2 : (k : Int) < (ps.length : Int) := by omega
      obtain ⟨r, HR, hr, zr⟩ : ∃ r : ByteArray, Hid (txtS r = leafS p) ∧ (⟨#[48]⟩ : ByteArray) ++ p = r ∧ r.size ≤ 1001 := ⟨_, Lib.hid rfl, rfl, by rw [leafQ_size]; omega⟩
      go_wp2_with (first
        | (go_at_call 17; refine (rtext_s r _ (by omega)).mono ?_; rintro e w' ⟨rfl, rfl⟩)
        | (at_builtin; go_must (refine push_str _ hown (.tmp 11) (.tmp 18) _ ?_ ?_ ?_ ?_ ?_ ?_ ?_; exact rfl; exact rfl; exact rfl; exact rfl; omega; exact hbel.size; intro v3 w3 hown3 hb3)))
      rw [HR.out, ← HN.out] at hown3
      go_roundw
      case rel => exact ⟨k + 1, by omega, by go_num, hown3, hbel.trans hb3⟩
      case measure => simp [intOf]; omega
    · obtain rfl : k = ps.length := by omega
      rw [List.take_length] at hown
      obtain ⟨bo, dap, rfl, hat⟩ := strs_own hown (List.length_map _)
      have HAT := Lib.hid hat; clear hat hown
      go_wp2
      go_ret
      exact ⟨⟨_, _, rfl, HAT.out⟩, hbel⟩

set_option maxRecDepth 100000 in
set_option maxHeartbeats 4000000 in
theorem up_s (ao : Option Addr) (n cap : Nat) (ps : List ByteArray) (w : World) (h : StrsAt w ao n cap ps) (hn : n ≤ 1000) (hp : ∀ j, j < ps.length → (partAt ps j).size ≤ 1000) :
    Calls Tryd.prog 43 #[.slice ao n cap] w fun e w' => (∃ bo dap, e = .returned (.slice bo (upL ps).length dap) ∧ StrsAt w' bo (upL ps).length dap (upL ps) ∧ FreshA w.heap.size bo) ∧ Below w.heap.size w w' := by
  have H := Lib.hid h
  have hcn := h.2.1
  have hcm := h.2.2.1
  obtain rfl := h.1
  unfold maxLen at hcm
  clear h
  have HP := Lib.hid hp; clear hp
  go_enter Tryd.func43, Tryd.ntmps43
  go_wp2
  go_loopw [3, 4] (fun lv i wr => ∃ (k : Nat) (out : List ByteArray), k ≤ ps.length + 1 ∧ k % 2 = 0 ∧ i = .int .i64 k ∧ out.length ≤ k ∧ Hid (upL ps = out ++ upL (ps.drop k)) ∧ wr.ownsRow w.heap.size 9 1 lv out.length (scells out) ∧ Below w.heap.size w wr)
    (fun _ i _ => ps.length + 1 - (intOf i).toNat)
  case atStart => exact ⟨0, [], Nat.zero_le _, rfl, rfl, Nat.le_refl _, Lib.hid rfl, World.ownsRow_nil _ _ _ _, Below.refl _ _⟩
  case round =>
    obtain ⟨k, out, hk, hev, rfl, hol, HU, hown, hbel⟩ := hrel
    have hmt := mate_even k hev
    by_cases hlt : k < ps.length
    · obtain ⟨b, off, rfl, hbw, hcells⟩ := H.out.at (by omega)
      have HC := Lib.hid hcells; clear hcells
      have hcell := HC.out _ hbel k hlt
      obtain ⟨p, hpe⟩ : ∃ p, p = partAt ps k := ⟨_, rfl⟩
      have hsz := HP.out k hlt
      by_cases h2 : k + 1 < ps.length
      · have HN := Lib.hid (show upL ps = (out ++ [pairS (partAt ps k) (partAt ps (k + 1))]) ++ upL (ps.drop (k + 2)) by rw [HU.out, up_two ps k h2]; simp)
        have hcell2 := HC.out _ hbel (k + 1) h2
        have hsz2 := HP.out (k + 1) h2
        obtain ⟨q, hqe⟩ : ∃ q, q = partAt ps (k + 1) := ⟨_, rfl⟩
        have HC1 := Lib.hid (show ∀ w', Below w.heap.size w w' → w'.cell? ⟨b, off + k, none⟩ = some (.string p) ∧ w'.cell? ⟨b, off + (k + 1), none⟩ = some (.string q) from fun w' hb => ⟨by rw [hpe]; exact HC.out _ hb k hlt, by rw [hqe]; exact HC.out _ hb (k + 1) h2⟩)
        rw [← hpe] at hcell hsz HN
        rw [← hqe] at hcell2 hsz2 HN
        clear hpe hqe
        obtain ⟨i0, hi0, hz0, hz1, hz2⟩ := info_parts info_string
        have k1 : (0 : Int) ≤ (k : Int) := by omega
        have k2 : (k : Int) < (ps.length : Int) := by omega
        have k3 : (0 : Int) ≤ (k : Int) + 1 := by omega
        have k4 : (k : Int) + 1 < (ps.length : Int) := by omega
        have k5 : IntKind.i64.wrap ((k : Int) + 1) = (k : Int) + 1 := IntWalk.i64_in _ (by omega)
        have hB0 : Below w.heap.size w wr.drew := hbel.drew
        have hO0 : wr.drew.ownsRow w.heap.size 9 1 _ out.length (scells out) := hown.drew
        have hBs := hbel.size
        have e1 : (⟨#[49]⟩ : ByteArray).size = 1 := rfl
        obtain ⟨r, hr, zr⟩ : ∃ r : ByteArray, (⟨#[49]⟩ : ByteArray) ++ p = r ∧ r.size ≤ 1001 := ⟨_, rfl, by rw [ByteArray.size_append]; omega⟩
        obtain ⟨t, ht, zt⟩ : ∃ t : ByteArray, r ++ q = t ∧ t.size ≤ 1000000 := ⟨_, rfl, by rw [ByteArray.size_append]; omega⟩
        have HPQ := Lib.hid (show txtS t = pairS p q by rw [← ht, ← hr]; rfl)
        have y4 : ¬ (9223372036854775807 < 1 + p.size) := by omega
        have y5 : ¬ (9223372036854775807 < r.size + q.size) := by omega
        go_wp2_with fail
        go_region_held3 (fun w' => w'.cell? ⟨b, off + k, none⟩ = some (.string p) ∧ w'.cell? ⟨b, off + (k + 1), none⟩ = some (.string q))
          (first | go_keep | exact HC1.out _ hB3 | exact HC1.out _ hB0)
          (first
            | (go_at_call 17; (with_reducible refine (rtext_s t _ (by omega)).mono ?_); rintro e wp ⟨rfl, rfl⟩)
            | (refine step_append_lies _ (by rfl) _ _ _ (by rfl) w.heap.size 9 i0 _ 1 16 Tryd.underlying35 hi0 hz0 hz1 hz2 rfl (by omega) _ _ _ (by rfl) (hO0.alloc _) ⟨wr.heap.size, 0, none⟩ 1 1 _ (by rfl) (by rfl) (World.news_of_block (heap_alloc_new wr.drew _)) (by simp [Value.oneCell']) (by omega) (by unfold maxLen; omega) (by omega) (by have := hB0.size; simp; omega) (wr.heap.size + 1) (by simp) ?_; intro gg cap2 w1 hown1 hgrow hat hlt1; have hB3 := (hB0.alloc hB0.size _).grown hgrow (by have := hB0.size; simp; omega) (fun j hj => (hO0.lt j hj).1)))
        have HOW := Lib.hid (show w1.ownsRow w.heap.size 9 1 (.slice (some ⟨gg, 0, none⟩) (out.length + 1) cap2) (out ++ [pairS p q]).length (scells (out ++ [pairS p q])) by rw [scells_snoc, List.length_append, ← HPQ.out]; exact hown1)
        clear hown1
        go_wp2
        go_roundw
        case rel => exact ⟨k + 2, out ++ [pairS p q], by omega, by omega, by go_num, by rw [List.length_append]; simp; omega, HN, HOW.out, hB3⟩
        case measure => simp [intOf]; omega
      · have HN := Lib.hid (show upL ps = (out ++ [partAt ps k]) ++ upL (ps.drop (k + 2)) by rw [HU.out, up_one ps k hlt h2, up_none ps (k + 2) (by omega)]; simp)
        rw [← hpe] at hcell hsz HN
        clear hpe
        have k2 : (k : Int) < (ps.length : Int) := by omega
        have k4 : ¬ (k : Int) + 1 < (ps.length : Int) := by omega
        have hcells := scells_snoc out p
        go_wp2_with (first
          | (at_builtin; go_must (refine push_str _ hown (.tmp 31) (.tmp 36) _ ?_ ?_ ?_ ?_ ?_ ?_ ?_; exact rfl; exact rfl; exact rfl; exact rfl; omega; exact hbel.size; intro v3 w3 hown3 hb3)))
        go_roundw
        case rel => exact ⟨k + 2, out ++ [p], by omega, by omega, by go_num, by rw [List.length_append]; simp; omega, HN, by rw [hcells, List.length_append]; exact hown3, hbel.trans hb3⟩
        case measure => simp [intOf]; omega
    · have HE := Lib.hid (show upL ps = out by rw [HU.out, up_none ps k (by omega), List.append_nil])
      have hat := strs_own hown rfl
      obtain ⟨bo, dap, rfl, hat⟩ := hat
      have HFR := Lib.hid (strs_fresh hown)
      rw [← HE.out] at hat ⊢
      go_wp2
      go_ret
      exact ⟨⟨_, _, rfl, hat, HFR.out⟩, hbel⟩

end Go.Proofs.YtnncfifpgjlpaaaDoor
