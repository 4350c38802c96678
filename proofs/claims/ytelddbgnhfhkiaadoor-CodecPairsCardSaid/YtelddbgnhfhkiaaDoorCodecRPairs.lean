/-
  Contracts of the specification's Pairs and SamePairs. Condition: at most 1000 pairs of strings of at most 600000 bytes.
-/
import Derived.Test.YtelddbgnhfhkiaaDoorCodecRJoin
import Derived.Test.YtelddbgnhfhkiaaDoorCodecPairs
set_option linter.unusedVariables false
set_option linter.unusedSimpArgs false
set_option linter.unnecessarySimpa false
namespace Go.Proofs.YtelddbgnhfhkiaaDoor
open Go.RowKit Go.PlainAid

def escB (s : ByteArray) : ByteArray := ⟨(escL s.data.toList).toArray⟩
theorem escB_size (s : ByteArray) : (escB s).size ≤ 3 * s.size := by
  have := escL_length s.data.toList
  rw [← Lib.size_eq] at this
  unfold escB; rw [Lib.size_eq]; exact this
theorem rescape_b (s r : ByteArray) (w : World) (hs : s.size ≤ 1000000000) (h : r = escB s) :
    Calls Tryd.prog 36 #[.string s] w fun e w' => e = .returned (.string r) ∧ Below w.heap.size w w' := by
  subst h; exact rescape_any s w hs
/-- the forms of pairs -/
def prP (ps : List Pr) : List ByteArray := ps.map fun p => (escB p.1 ++ ⟨#[61]⟩) ++ escB p.2
theorem prP_take (ps : List Pr) (k : Nat) (h : k < ps.length) : scells (prP (ps.take (k + 1))) = scells (prP (ps.take k)) ++ [.string ((escB (prAt ps k).1 ++ ⟨#[61]⟩) ++ escB (prAt ps k).2)] := by
  rw [pr_take ps k h]
  unfold prP scells
  rw [List.map_append, List.map_append]
  rfl
theorem prP_data (ps : List Pr) : dataL (prP ps) = ps.map prL := by
  unfold dataL prP
  rw [List.map_map]
  apply List.map_congr_left
  intro p _
  show ((escB p.1 ++ ⟨#[61]⟩) ++ escB p.2).data.toList = _
  rw [ByteArray.data_append, ByteArray.data_append, Array.toList_append, Array.toList_append]
  rfl
theorem pairsS_bar (ps : List Pr) : pairsS ps = barK (prP ps) (prP ps).length := by
  unfold pairsS barK
  rw [List.take_length, prP_data]

set_option maxRecDepth 100000 in
set_option maxHeartbeats 4000000 in
theorem rpairs_s (ao : Option Addr) (n cap : Nat) (ps : List Pr) (w : World) (h : PairsAt w ao n cap ps) (hn : ps.length ≤ 1000) (hp : ∀ j, j < ps.length → (prAt ps j).1.size ≤ 600000 ∧ (prAt ps j).2.size ≤ 600000) :
    Calls Tryd.prog 46 #[.slice ao n cap] w fun e w' => e = .returned (.string (pairsS ps)) ∧ Below w.heap.size w w' := by
  obtain ⟨h1, h2, h3, h4⟩ := h
  subst h1
  unfold maxLen at h3
  have HE := Lib.hid (pairsS_bar ps)
  have HP := Lib.hid hp; clear hp
  have H4 := Lib.hid h4; clear h4
  go_enter Tryd.func46, Tryd.ntmps46
  go_wp2
  go_loopw [3, 4] (fun lv i wr => ∃ k : Nat, k ≤ ps.length ∧ i = .int .i64 k ∧ wr.ownsRow w.heap.size 9 1 lv k (scells (prP (ps.take k))) ∧ Below w.heap.size w wr)
    (fun _ i _ => ps.length - (intOf i).toNat)
  case atStart => exact ⟨0, Nat.zero_le _, rfl, World.ownsRow_nil _ _ _ _, Below.refl _ _⟩
  case round =>
    obtain ⟨k, hk, rfl, hown, hbel⟩ := hrel
    by_cases hlt : k < ps.length
    · obtain ⟨b, off, rfl, hs⟩ := H4.out (by omega)
      have HB := Lib.hid hs; clear hs
      obtain ⟨hpk, hpv⟩ := HP.out k hlt
      have HT := Lib.hid (prP_take ps k hlt)
      obtain ⟨⟨p, q⟩, hpe⟩ : ∃ p, p = prAt ps k := ⟨_, rfl⟩
      have HC := Lib.hid (show ∀ w', Below w.heap.size w w' → w'.cell? ⟨b, off + k * 2, none⟩ = some (.string p) ∧ w'.cell? ⟨b, off + k * 2 + 1, none⟩ = some (.string q) by
        intro w' hb
        have := (HB.out.below hb HB.out.1).2 k hlt
        rw [← hpe] at this; exact this)
      rw [← hpe] at hpk hpv HT
      simp only [] at hpk hpv HT
      clear hpe
      obtain ⟨ep, hep⟩ : ∃ r, r = escB p := ⟨_, rfl⟩
      obtain ⟨eq, heq⟩ : ∃ r, r = escB q := ⟨_, rfl⟩
      have z1 := escB_size p
      have z2 := escB_size q
      rw [← hep] at z1 HT
      rw [← heq] at z2 HT
      have HEP := Lib.hid hep; clear hep
      have HEQ := Lib.hid heq; clear heq
      have z3 : (ep ++ (⟨#[61]⟩ : ByteArray)).size = ep.size + 1 := by rw [ByteArray.size_append]; rfl
      have z4 : (ep ++ (⟨#[61]⟩ : ByteArray)).size ≤ 1800001 := by omega
      have z5 : ep.size ≤ 1800000 := by omega
      have z6 : eq.size ≤ 1800000 := by omega
      obtain ⟨c1, c2⟩ := HC.out _ hbel
      obtain ⟨i0, hi0, hz0, hz1, hz2⟩ := info_parts info_string
      have k1 : (0 : Int) ≤ (k : Int) := by omega
      have k2 : (k : Int) < (ps.length : Int) := by omega
      have y1 : ep.size + 1 ≤ 9223372036854775807 := by omega
      have y2 : (ep ++ (⟨#[61]⟩ : ByteArray)).size + eq.size ≤ 9223372036854775807 := by omega
      have y3 : ep.size + 1 + eq.size ≤ 9223372036854775807 := by omega
      have y4 : ¬ (9223372036854775807 < ep.size + 1) := by omega
      have y5 : ¬ (9223372036854775807 < ep.size + 1 + eq.size) := by omega
      have hB0 : Below w.heap.size w wr.drew := hbel.drew
      have hO0 : wr.drew.ownsRow w.heap.size 9 1 _ k (scells (prP (ps.take k))) := hown.drew
      have hBs := hbel.size
      go_wp2_with fail
      go_region_held3 (fun w' => w'.cell? ⟨b, off + k * 2, none⟩ = some (.string p) ∧ w'.cell? ⟨b, off + k * 2 + 1, none⟩ = some (.string q))
        (first | go_keep | exact HC.out _ hB3 | exact HC.out _ hBp | exact HC.out _ hBq)
        (first
          | (go_at_call 36; (with_reducible refine (rescape_b p ep _ (by omega) HEP.out).mono ?_); rintro e wp ⟨rfl, hbp⟩; (first | (have hBp := hBq.trans (hbp.mono hBq.size); have hOp := own_below hOq hbp) | (have hBp := hB0.trans (hbp.mono hB0.size); have hOp := own_below hO0 hbp)))
          | (go_at_call 36; (with_reducible refine (rescape_b q eq _ (by omega) HEQ.out).mono ?_); rintro e wq ⟨rfl, hbq⟩; (first | (have hBq := hBp.trans (hbq.mono hBp.size); have hOq := own_below hOp hbq) | (have hBq := hB0.trans (hbq.mono hB0.size); have hOq := own_below hO0 hbq)))
          | (refine step_append_lies _ (by rfl) _ _ _ (by rfl) w.heap.size 9 i0 _ 1 16 Tryd.underlying27 hi0 hz0 hz1 hz2 rfl (by omega) _ _ _ (by rfl) (hOq.alloc _)
              ⟨wq.heap.size, 0, none⟩ 1 1 _ (by rfl) (by rfl) (World.news_of_block (heap_alloc_new wq _)) (by simp [Value.oneCell'])
              (by omega) (by unfold maxLen; omega) (by omega) (by have := hBq.size; simp; omega) (wq.heap.size + 1) (by simp) ?_; intro gg cap2 w1 hown1 hgrow hat hlt1; have hB3 := (hBq.alloc hBq.size _).grown hgrow (by have := hBq.size; simp; omega) (fun j hj => (hOq.lt j hj).1)))
      have HOW := Lib.hid (show w1.ownsRow w.heap.size 9 1 (.slice (some ⟨gg, 0, none⟩) (k + 1) cap2) (k + 1) (scells (prP (ps.take (k + 1)))) by rw [HT.out]; exact hown1)
      clear hown1 y1 y2 y3 y4 y5
      go_wp2
      go_roundw
      case rel => exact ⟨k + 1, by omega, by go_num, HOW.out, hB3⟩
      case measure => simp [intOf]; omega
    · have hown2 := hown
      rw [List.take_of_length_le (show ps.length ≤ k by omega), show k = ps.length by omega] at hown2
      have hel : (prP ps).length = ps.length := by simp [prP]
      obtain ⟨ao2, cap2, rfl, hat⟩ := strs_own hown2 hel
      have hsz : ∀ j, j < (prP ps).length → (partAt (prP ps) j).size ≤ 4000000 := fun j hj => by
        rw [hel] at hj
        have e : partAt (prP ps) j = (escB (prAt ps j).1 ++ ⟨#[61]⟩) ++ escB (prAt ps j).2 := by
          unfold partAt prP prAt
          rw [List.getD_eq_getElem?_getD, List.getD_eq_getElem?_getD, List.getElem?_map, List.getElem?_eq_getElem hj]; rfl
        rw [e, ByteArray.size_append, ByteArray.size_append]
        have h5 := escB_size (prAt ps j).1
        have h6 := escB_size (prAt ps j).2
        have := HP.out j hj
        have h7 : (⟨#[61]⟩ : ByteArray).size = 1 := rfl
        omega
      have HSZ := Lib.hid hsz; clear hsz hown2 hown
      go_wp2_with (go_at_call 73; refine (between_s ao2 ps.length cap2 (prP ps) _ hat (by omega) HSZ.out).mono ?_; rintro e w1 ⟨rfl, hb1⟩)
      go_ret
      exact ⟨by rw [HE.out, hel]; rfl, hbel.trans (hb1.mono hbel.size)⟩

theorem pairs_ext {ps qs : List Pr} (hl : ps.length = qs.length) (h : ∀ j, j < ps.length → prAt ps j = prAt qs j) : ps = qs := by
  apply List.ext_getElem hl
  intro j h1 h2
  have := h j h1
  unfold prAt at this
  rw [List.getD_eq_getElem?_getD, List.getD_eq_getElem?_getD, List.getElem?_eq_getElem h1, List.getElem?_eq_getElem h2] at this
  simpa using this

set_option maxRecDepth 100000 in
set_option maxHeartbeats 4000000 in
theorem samePairs_s (ao bo : Option Addr) (n m cap dap : Nat) (ps qs : List Pr) (w : World) (h : PairsAt w ao n cap ps) (k : PairsAt w bo m dap qs) :
    Calls Tryd.prog 47 #[.slice ao n cap, .slice bo m dap] w fun e w' => e = .returned (.bool (decide (ps = qs))) ∧ Below w.heap.size w w' := by
  obtain ⟨h1, h2, h3, h4⟩ := h
  obtain ⟨k1, k2, k3, k4⟩ := k
  subst h1
  subst k1
  unfold maxLen at h3 k3
  have H4 := Lib.hid h4; clear h4
  have K4 := Lib.hid k4; clear k4
  by_cases hne : ps.length = qs.length
  · have hn1 : ((ps.length : Int) != (qs.length : Int)) = false := by simp; omega
    go_enter Tryd.func47, Tryd.ntmps47
    go_wp2
    go_loopw [5] (fun i wr => ∃ k : Nat, k ≤ ps.length ∧ i = .int .i64 k ∧ Hid (∀ j, j < k → prAt ps j = prAt qs j) ∧ Below w.heap.size w wr) (fun i _ => ps.length - (intOf i).toNat)
    case atStart => exact ⟨0, Nat.zero_le _, rfl, Lib.hid (fun j hj => absurd hj (Nat.not_lt_zero _)), Below.refl _ _⟩
    case round =>
      obtain ⟨k, hk, rfl, HA, hbel⟩ := hrel
      by_cases hlt : k < ps.length
      · obtain ⟨b, off, rfl, hs⟩ := H4.out (by omega)
        obtain ⟨c, off2, rfl, hs2⟩ := K4.out (by omega)
        obtain ⟨hc1, hc2⟩ := (hs.below hbel hs.1).2 k hlt
        obtain ⟨hd1, hd2⟩ := (hs2.below hbel hs2.1).2 k (by omega)
        clear hs hs2
        obtain ⟨⟨p1, p2⟩, hpe⟩ : ∃ p, p = prAt ps k := ⟨_, rfl⟩
        obtain ⟨⟨q1, q2⟩, hqe⟩ : ∃ q, q = prAt qs k := ⟨_, rfl⟩
        rw [← hpe] at hc1 hc2
        rw [← hqe] at hd1 hd2
        simp only [] at hc1 hc2 hd1 hd2
        have HP := Lib.hid hpe; clear hpe
        have HQ := Lib.hid hqe; clear hqe
        have k1 : (0 : Int) ≤ (k : Int) := by omega
        have k2 : (k : Int) < (ps.length : Int) := by omega
        have k3 : (k : Int) < (qs.length : Int) := by omega
        by_cases hpq : p1 = q1
        · have hq1 : (p1.toList == q1.toList) = true := by rw [hpq]; exact beq_self_eq_true _
          have HPQ := Lib.hid hpq; clear hpq
          by_cases hpq : p2 = q2
          · have hq2 : (p2.toList == q2.toList) = true := by rw [hpq]; exact beq_self_eq_true _
            have HPQ2 := Lib.hid hpq; clear hpq
            go_wp2_with fail
            go_region_held3 (fun w' => w'.cell? ⟨b, off + k * 2, none⟩ = some (.string p1) ∧ w'.cell? ⟨b, off + k * 2 + 1, none⟩ = some (.string p2) ∧ w'.cell? ⟨c, off2 + k * 2, none⟩ = some (.string q1) ∧ w'.cell? ⟨c, off2 + k * 2 + 1, none⟩ = some (.string q2)) (go_keep) (fail)
            go_wp2
            go_roundw
            case rel =>
              refine ⟨k + 1, by omega, by go_num, Lib.hid fun j hj => ?_, hbel.drew⟩
              by_cases e : j = k
              · rw [e, ← HP.out, ← HQ.out, HPQ.out, HPQ2.out]
              · exact HA.out j (by omega)
            case measure => simp [intOf]; omega
          · have HE := Lib.hid (show decide (ps = qs) = false from decide_eq_false fun e => hpq (by
              have h1 := HP.out; have h2 := HQ.out
              rw [e, ← h2] at h1
              exact (Prod.mk.inj h1).2))
            have hq2 : (p2.toList == q2.toList) = false := by
              rw [Lib.toList_data, Lib.toList_data]
              exact beq_false_of_ne fun e => hpq (by rw [← Lib.mk_data p2, ← Lib.mk_data q2, e])
            clear hpq
            go_wp2_with fail
            go_region_held3 (fun w' => w'.cell? ⟨b, off + k * 2, none⟩ = some (.string p1) ∧ w'.cell? ⟨b, off + k * 2 + 1, none⟩ = some (.string p2) ∧ w'.cell? ⟨c, off2 + k * 2, none⟩ = some (.string q1) ∧ w'.cell? ⟨c, off2 + k * 2 + 1, none⟩ = some (.string q2)) (go_keep) (fail)
            go_wp2
            go_ret
            exact ⟨by rw [HE.out]; rfl, hbel.drew⟩
        · have HE := Lib.hid (show decide (ps = qs) = false from decide_eq_false fun e => hpq (by
            have h1 := HP.out; have h2 := HQ.out
            rw [e, ← h2] at h1
            exact (Prod.mk.inj h1).1))
          have hq1 : (p1.toList == q1.toList) = false := by
            rw [Lib.toList_data, Lib.toList_data]
            exact beq_false_of_ne fun e => hpq (by rw [← Lib.mk_data p1, ← Lib.mk_data q1, e])
          clear hpq
          go_wp2_with fail
          go_region_held3 (fun w' => w'.cell? ⟨b, off + k * 2, none⟩ = some (.string p1) ∧ w'.cell? ⟨b, off + k * 2 + 1, none⟩ = some (.string p2) ∧ w'.cell? ⟨c, off2 + k * 2, none⟩ = some (.string q1) ∧ w'.cell? ⟨c, off2 + k * 2 + 1, none⟩ = some (.string q2)) (go_keep) (fail)
          go_wp2
          go_ret
          exact ⟨by rw [HE.out]; rfl, hbel.drew⟩
      · have HE := Lib.hid (show decide (ps = qs) = true from decide_eq_true (pairs_ext hne fun j hj => HA.out j (by omega)))
        go_wp2
        go_ret
        exact ⟨by rw [HE.out]; rfl, hbel⟩
  · have HE := Lib.hid (show decide (ps = qs) = false from decide_eq_false fun e => hne (by rw [e]))
    have hn1 : ((ps.length : Int) != (qs.length : Int)) = true := by simp; omega
    go_enter Tryd.func47, Tryd.ntmps47
    go_wp2
    go_ret
    exact ⟨by rw [HE.out]; rfl, Below.refl _ _⟩

end Go.Proofs.YtelddbgnhfhkiaaDoor
