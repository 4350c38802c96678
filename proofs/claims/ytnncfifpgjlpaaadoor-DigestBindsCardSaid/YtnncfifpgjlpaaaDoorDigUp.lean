/-
  The contract of digest.above. Condition: at most 1000 strings of at most 1000 bytes.
-/
import Derived.Test.YtnncfifpgjlpaaaDoorDigTree
import Derived.Deep.AppendLies
set_option linter.unusedVariables false
set_option linter.unusedSimpArgs false
set_option linter.unnecessarySimpa false
namespace Go.Proofs.YtnncfifpgjlpaaaDoor
open Go.RowKit Go.PlainAid

theorem up_two (ps : List ByteArray) (i : Nat) (h : i + 1 < ps.length) : upL (ps.drop i) = pairS (partAt ps i) (partAt ps (i + 1)) :: upL (ps.drop (i + 2)) := by
  rw [drop_at ps i (by omega), drop_at ps (i + 1) h]; rfl
theorem up_one (ps : List ByteArray) (i : Nat) (h : i < ps.length) (h2 : ¬ i + 1 < ps.length) : upL (ps.drop i) = [partAt ps i] := by
  rw [drop_at ps i h, List.drop_eq_nil_of_le (by omega)]; rfl
theorem up_none (ps : List ByteArray) (i : Nat) (h : ps.length ≤ i) : upL (ps.drop i) = [] := by
  rw [List.drop_eq_nil_of_le h]; rfl
theorem up_fine {ps : List ByteArray} (hp : ∀ j, j < ps.length → (partAt ps j).size ≤ 1000) : ∀ j, j < (upL ps).length → (partAt (upL ps) j).size ≤ 1000 := by
  intro j hj
  have hlen := upL_len ps
  have h := up_at ps (2 * j) (by omega)
  rw [show 2 * j / 2 = j by omega] at h
  rw [h]
  split
  · rw [txtS_size]; decide
  · exact hp _ (by omega)
theorem mate_even (i : Nat) (h : i % 2 = 0) : mate i = i + 1 := by unfold mate; rw [if_pos h]

set_option maxRecDepth 100000 in
set_option maxHeartbeats 4000000 in
theorem above_s (ao : Option Addr) (n cap : Nat) (ps : List ByteArray) (w : World) (h : StrsAt w ao n cap ps) (hn : n ≤ 1000) (hp : ∀ j, j < ps.length → (partAt ps j).size ≤ 1000) :
    Calls Tryd.prog 40 #[.slice ao n cap] w fun e w' => (∃ bo dap, e = .returned (.slice bo (upL ps).length dap) ∧ StrsAt w' bo (upL ps).length dap (upL ps) ∧ FreshA w.heap.size bo) ∧ Below w.heap.size w w' := by
  have H := Lib.hid h
  have hcn := h.2.1
  have hcm := h.2.2.1
  obtain rfl := h.1
  unfold maxLen at hcm
  clear h
  have HP := Lib.hid hp; clear hp
  go_enter Tryd.func40, Tryd.ntmps40
  go_wp2
  go_loopw [3, 4] (fun lv i wr => ∃ (k : Nat) (out : List ByteArray), k ≤ ps.length + 1 ∧ k % 2 = 0 ∧ i = .int .i64 k ∧ out.length ≤ k ∧ Hid (upL ps = out ++ upL (ps.drop k)) ∧ wr.ownsRow w.heap.size 9 1 lv out.length (scells out) ∧ Below w.heap.size w wr)
    (fun _ i _ => ps.length + 1 - (intOf i).toNat)
  case atStart => exact ⟨0, [], Nat.zero_le _, rfl, rfl, Nat.le_refl _, Lib.hid rfl, World.ownsRow_nil _ _ _ _, Below.refl _ _⟩
  case round =>
    obtain ⟨k, out, hk, hev, rfl, hol, HU, hown, hbel⟩ := hrel
    have hmt := mate_even k hev
    by_cases hlt : k < ps.length
    · obtain ⟨b, off, rfl, hbw, hcells⟩ := H.out.at (by omega)
      have HC := Lib.hid hcells; clear hcells
      have hcell := HC.out _ hbel k hlt
      obtain ⟨p, hpe⟩ : ∃ p, p = partAt ps k := ⟨_, rfl⟩
      have hsz := HP.out k hlt
      by_cases h2 : k + 1 < ps.length
      · have HN := Lib.hid (show upL ps = (out ++ [pairS (partAt ps k) (partAt ps (k + 1))]) ++ upL (ps.drop (k + 2)) by rw [HU.out, up_two ps k h2]; simp)
        have hcell2 := HC.out _ hbel (k + 1) h2
        have hsz2 := HP.out (k + 1) h2
        obtain ⟨q, hqe⟩ : ∃ q, q = partAt ps (k + 1) := ⟨_, rfl⟩
        have HC1 := Lib.hid (show ∀ w', Below w.heap.size w w' → w'.cell? ⟨b, off + k, none⟩ = some (.string p) ∧ w'.cell? ⟨b, off + (k + 1), none⟩ = some (.string q) from fun w' hb => ⟨by rw [hpe]; exact HC.out _ hb k hlt, by rw [hqe]; exact HC.out _ hb (k + 1) h2⟩)
        rw [← hpe] at hcell hsz HN
        rw [← hqe] at hcell2 hsz2 HN
        clear hpe hqe
        obtain ⟨i0, hi0, hz0, hz1, hz2⟩ := info_parts info_string
        have k1 : (0 : Int) ≤ (k : Int) := by omega
        have k2 : (k : Int) < (ps.length : Int) := by omega
        have k3 : (0 : Int) ≤ (k : Int) + 1 := by omega
        have k4 : (k : Int) + 1 < (ps.length : Int) := by omega
        have k5 : IntKind.i64.wrap ((k : Int) + 1) = (k : Int) + 1 := IntWalk.i64_in _ (by omega)
        have hB0 : Below w.heap.size w wr.drew := hbel.drew
        have hO0 : wr.drew.ownsRow w.heap.size 9 1 _ out.length (scells out) := hown.drew
        have hBs := hbel.size
        go_wp2_with (go_at_call 41; refine (partner_s k _ (by omega)).mono ?_; rintro e w' ⟨rfl, rfl⟩; rw [hmt])
        go_region_held3 (fun w' => w'.cell? ⟨b, off + k, none⟩ = some (.string p) ∧ w'.cell? ⟨b, off + (k + 1), none⟩ = some (.string q))
          (first | go_keep | exact HC1.out _ hB3 | exact HC1.out _ hBp)
          (first
            | (go_at_call 48; (with_reducible refine (pair_s p q _ (by omega) (by omega)).mono ?_); rintro e wp ⟨rfl, hbp⟩; have hBp := hB0.trans (hbp.mono hB0.size); have hOp := own_below hO0 hbp)
            | (refine step_append_lies _ (by rfl) _ _ _ (by rfl) w.heap.size 9 i0 _ 1 16 Tryd.underlying35 hi0 hz0 hz1 hz2 rfl (by omega) _ _ _ (by rfl) (hOp.alloc _) ⟨wp.heap.size, 0, none⟩ 1 1 _ (by rfl) (by rfl) (World.news_of_block (heap_alloc_new wp _)) (by simp [Value.oneCell']) (by omega) (by unfold maxLen; omega) (by omega) (by have := hBp.size; simp; omega) (wp.heap.size + 1) (by simp) ?_; intro gg cap2 w1 hown1 hgrow hat hlt1; have hB3 := (hBp.alloc hBp.size _).grown hgrow (by have := hBp.size; simp; omega) (fun j hj => (hOp.lt j hj).1)))
        have HOW := Lib.hid (show w1.ownsRow w.heap.size 9 1 (.slice (some ⟨gg, 0, none⟩) (out.length + 1) cap2) (out ++ [pairS p q]).length (scells (out ++ [pairS p q])) by rw [scells_snoc, List.length_append]; exact hown1)
        clear hown1
        go_wp2
        go_roundw
        case rel => exact ⟨k + 2, out ++ [pairS p q], by omega, by omega, by go_num, by rw [List.length_append]; simp; omega, HN, HOW.out, hB3⟩
        case measure => simp [intOf]; omega
      · have HN := Lib.hid (show upL ps = (out ++ [partAt ps k]) ++ upL (ps.drop (k + 2)) by rw [HU.out, up_one ps k hlt h2, up_none ps (k + 2) (by omega)]; simp)
        rw [← hpe] at hcell hsz HN
        clear hpe
        have k2 : (k : Int) < (ps.length : Int) := by omega
        have k4 : ¬ (k : Int) + 1 < (ps.length : Int) := by omega
        have hcells := scells_snoc out p
        go_wp2_with (first
          | (go_at_call 41; refine (partner_s k _ (by omega)).mono ?_; rintro e w' ⟨rfl, rfl⟩; rw [hmt])
          | (at_builtin; go_must (refine push_str _ hown (.tmp 29) (.tmp 34) _ ?_ ?_ ?_ ?_ ?_ ?_ ?_; exact rfl; exact rfl; exact rfl; exact rfl; omega; exact hbel.size; intro v3 w3 hown3 hb3)))
        go_roundw
        case rel => exact ⟨k + 2, out ++ [p], by omega, by omega, by go_num, by rw [List.length_append]; simp; omega, HN, by rw [hcells, List.length_append]; exact hown3, hbel.trans hb3⟩
        case measure => simp [intOf]; omega
    · have HE := Lib.hid (show upL ps = out by rw [HU.out, up_none ps k (by omega), List.append_nil])
      have hat := strs_own hown rfl
      obtain ⟨bo, dap, rfl, hat⟩ := hat
      have HFR := Lib.hid (strs_fresh hown)
      rw [← HE.out] at hat ⊢
      go_wp2
      go_ret
      exact ⟨⟨_, _, rfl, hat, HFR.out⟩, hbel⟩

end Go.Proofs.YtnncfifpgjlpaaaDoor
