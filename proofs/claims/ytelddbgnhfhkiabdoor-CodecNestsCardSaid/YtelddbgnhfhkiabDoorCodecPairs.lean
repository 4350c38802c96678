/-
  Plain functions for writing pairs, and the contract of codec.Pairs. Condition: at most 1000 pairs of strings of at most 1000000 bytes.
-/
import Derived.Test.YtelddbgnhfhkiabDoorCodecJoin
set_option linter.unusedVariables false
set_option linter.unusedSimpArgs false
set_option linter.unnecessarySimpa false
namespace Go.Proofs.YtelddbgnhfhkiabDoor
open Go.RowKit Go.PlainAid

abbrev Pr := ByteArray × ByteArray
def prAt (ps : List Pr) (j : Nat) : Pr := ps.getD j (ByteArray.empty, ByteArray.empty)
def prL (p : Pr) : List UInt8 := escL p.1.data.toList ++ [61] ++ escL p.2.data.toList
def pairsK (ps : List Pr) (k : Nat) : List UInt8 := bar 124 ((ps.take k).map prL)
def pairsS (ps : List Pr) : ByteArray := ofL (bar 124 (ps.map prL))
theorem pr_take (ps : List Pr) (k : Nat) (h : k < ps.length) : ps.take (k + 1) = ps.take k ++ [prAt ps k] := by
  unfold prAt
  rw [List.take_succ_eq_append_getElem h, List.getD_eq_getElem?_getD, List.getElem?_eq_getElem h]; rfl
theorem pairsK_first (ps : List Pr) (h : 0 < ps.length) : pairsK ps (0 + 1) = pairsK ps 0 ++ escL (prAt ps 0).1.data.toList ++ [61] ++ escL (prAt ps 0).2.data.toList := by
  unfold pairsK; rw [pr_take ps 0 h]; simp [bar, prL]
theorem pairsK_next (ps : List Pr) (k : Nat) (h : k < ps.length) (h0 : 0 < k) : pairsK ps (k + 1) = pairsK ps k ++ [124] ++ escL (prAt ps k).1.data.toList ++ [61] ++ escL (prAt ps k).2.data.toList := by
  unfold pairsK
  rw [pr_take ps k h, List.map_append, List.map_cons, List.map_nil, bar_snoc _ _ _ (by
    intro e; have := congrArg List.length e; rw [List.length_map, List.length_take, List.length_nil] at this; omega)]
  simp [prL]
theorem prL_length (p : Pr) : (prL p).length ≤ 3 * p.1.size + 3 * p.2.size + 1 := by
  unfold prL
  have h1 := escL_length p.1.data.toList
  have h2 := escL_length p.2.data.toList
  rw [← Lib.size_eq] at h1 h2
  simp; omega
theorem pairsK_len (ps : List Pr) (k : Nat) (hp : ∀ j, j < ps.length → (prAt ps j).1.size ≤ 1000000 ∧ (prAt ps j).2.size ≤ 1000000) (h : ps.length ≤ 1000) : (pairsK ps k).length ≤ 8000000000 := by
  have h1 := bar_len 124 6000001 ((ps.take k).map prL) (fun p hq => by
    obtain ⟨q, hq1, rfl⟩ := List.mem_map.1 hq
    obtain ⟨j, hj, rfl⟩ := List.getElem_of_mem (List.mem_of_mem_take hq1)
    have := hp j hj
    unfold prAt at this
    rw [List.getD_eq_getElem?_getD, List.getElem?_eq_getElem hj, Option.getD_some] at this
    have h3 := prL_length ps[j]
    omega)
  have h2 : ((ps.take k).map prL).length ≤ 1000 := by simp; omega
  unfold pairsK
  have := Nat.mul_le_mul_right (6000001 + 1) h2
  omega

/-- a slice's pairs, as they lie in memory -/
def IsPairs (w : World) (b off : Nat) (ps : List Pr) : Prop :=
  b < w.heap.size ∧ ∀ j, j < ps.length → w.cell? ⟨b, off + j * 2, none⟩ = some (.string (prAt ps j).1) ∧ w.cell? ⟨b, off + j * 2 + 1, none⟩ = some (.string (prAt ps j).2)
theorem IsPairs.below {w w' : World} {b off : Nat} {ps : List Pr} (h : IsPairs w b off ps) {B : Nat} (hb : Below B w w') (hB : b < B) : IsPairs w' b off ps :=
  ⟨Nat.lt_of_lt_of_le h.1 hb.size, fun j hj => by
    rw [hb.cell (p := ⟨b, off + j * 2, none⟩) hB, hb.cell (p := ⟨b, off + j * 2 + 1, none⟩) hB]; exact h.2 j hj⟩
def PairsAt (w : World) (ao : Option Addr) (n cap : Nat) (ps : List Pr) : Prop :=
  ps.length = n ∧ n ≤ cap ∧ cap ≤ maxLen ∧ (0 < n → ∃ b off, ao = some ⟨b, off, none⟩ ∧ IsPairs w b off ps)
theorem PairsAt.below {w w' : World} {ao : Option Addr} {n cap : Nat} {ps : List Pr} (h : PairsAt w ao n cap ps) (hb : Below w.heap.size w w') : PairsAt w' ao n cap ps :=
  ⟨h.1, h.2.1, h.2.2.1, fun hn => by
    obtain ⟨b, off, e, hi⟩ := h.2.2.2 hn
    exact ⟨b, off, e, hi.below hb hi.1⟩⟩

set_option maxRecDepth 100000 in
set_option maxHeartbeats 4000000 in
theorem pairs_s (ao : Option Addr) (n cap : Nat) (ps : List Pr) (w : World) (h : PairsAt w ao n cap ps) (hn : ps.length ≤ 1000) (hp : ∀ j, j < ps.length → (prAt ps j).1.size ≤ 1000000 ∧ (prAt ps j).2.size ≤ 1000000) :
    Calls Tryd.prog 11 #[.slice ao n cap] w fun e w' => e = .returned (.string (pairsS ps)) ∧ Below w.heap.size w w' := by
  obtain ⟨h1, h2, h3, h4⟩ := h
  subst h1
  have HE := Lib.hid (show pairsS ps = ofL (pairsK ps ps.length) by unfold pairsS pairsK; rw [List.take_length])
  have HN := Lib.hid (bld_new w)
  have HP := Lib.hid hp; clear hp
  have H4 := Lib.hid h4; clear h4
  go_enter Tryd.func11, Tryd.ntmps11
  go_wp2
  go_loopw [7] (fun i wr => ∃ k : Nat, k ≤ ps.length ∧ i = .int .i64 k ∧ Bld w.heap.size w.heap.size (pairsK ps k) wr ∧ Below w.heap.size w wr ∧ w.heap.size < wr.heap.size)
    (fun i _ => ps.length - (intOf i).toNat)
  case atStart => exact ⟨0, Nat.zero_le _, rfl, HN.out, (Below.refl _ _).alloc (Nat.le_refl _) _, by simp⟩
  case round =>
    obtain ⟨k, hk, rfl, HBd, hbel, hsz⟩ := hrel
    have hln := pairsK_len ps k HP.out hn
    by_cases hlt : k < ps.length
    · obtain ⟨b, off, rfl, hs⟩ := H4.out (by omega)
      have HB := Lib.hid hs; clear hs
      obtain ⟨hpk, hpv⟩ := HP.out k hlt
      obtain ⟨⟨p, q⟩, hpe⟩ : ∃ p, p = prAt ps k := ⟨_, rfl⟩
      have HPE := Lib.hid hpe
      have hep := escL_length p.data.toList
      have heq := escL_length q.data.toList
      rw [← Lib.size_eq] at hep heq
      have hep2 : (⟨(escL p.data.toList).toArray⟩ : ByteArray).size = (escL p.data.toList).length := by rw [Lib.size_eq]
      have heq2 : (⟨(escL q.data.toList).toArray⟩ : ByteArray).size = (escL q.data.toList).length := by rw [Lib.size_eq]
      have HC := Lib.hid (show ∀ w', Below w.heap.size w w' → w'.cell? ⟨b, off + k * 2, none⟩ = some (.string p) ∧ w'.cell? ⟨b, off + k * 2 + 1, none⟩ = some (.string q) by
        intro w' hb
        have := (HB.out.below hb HB.out.1).2 k hlt
        rw [← hpe] at this; exact this)
      by_cases hk0 : k = 0
      · have HK := Lib.hid (show pairsK ps (k + 1) = pairsK ps k ++ escL (prAt ps k).1.data.toList ++ [61] ++ escL (prAt ps k).2.data.toList by subst hk0; exact pairsK_first ps hlt)
        rw [← hpe] at HK hpk hpv
        simp only [] at HK hpk hpv
        clear hpe
        have hd0 : decide (0 < k) = false := by simp; omega
        clear hk0
        obtain ⟨hc1, hc2⟩ := HC.out _ hbel
        clear hc2
        go_wp2_with fail
        refine (escape_any p _ (by omega)).mono ?_
        rintro e w1 ⟨rfl, hb1⟩
        have HBd1 := HBd.below hb1
        have hbel1 := hbel.trans (hb1.mono hbel.size)
        clear hc1
        go_wp2_with fail
        refine (writeString_s w.heap.size w.heap.size _ _ _ HBd1 (by (try simp only [List.length_append, List.length_cons, List.length_nil]); omega) hbel1.size).mono ?_
        rintro e w2 ⟨rfl, HBd2, hb2⟩
        have hbel2 := hbel1.trans hb2
        go_wp2_with fail
        refine (writeByte_s w.heap.size w.heap.size _ 61 61 _ HBd2 rfl (by (try simp only [List.length_append, List.length_cons, List.length_nil]); omega) hbel2.size).mono ?_
        rintro e w3 ⟨rfl, HBd3, hb3⟩
        have hbel3 := hbel2.trans hb3
        obtain ⟨hc3, hc4⟩ := HC.out _ hbel3
        clear hc3
        go_wp2_with fail
        refine (escape_any q _ (by omega)).mono ?_
        rintro e w4 ⟨rfl, hb4⟩
        have HBd4 := HBd3.below hb4
        have hbel4 := hbel3.trans (hb4.mono hbel3.size)
        clear hc4
        go_wp2_with fail
        refine (writeString_s w.heap.size w.heap.size _ _ _ HBd4 (by (try simp only [List.length_append, List.length_cons, List.length_nil]); omega) hbel4.size).mono ?_
        rintro e w5 ⟨rfl, HBd5, hb5⟩
        have hbel5 := hbel4.trans hb5
        go_wp2
        go_roundw
        case rel => exact ⟨k + 1, by omega, by go_num, by rw [HK.out]; exact HBd5, hbel5, Nat.lt_of_lt_of_le hsz (Nat.le_trans hb1.size (Nat.le_trans hb2.size (Nat.le_trans hb3.size (Nat.le_trans hb4.size hb5.size))))⟩
        case measure => simp [intOf]; omega
      · have HK := Lib.hid (pairsK_next ps k hlt (by omega))
        rw [← hpe] at HK hpk hpv
        simp only [] at HK hpk hpv
        clear hpe
        have hd0 : decide (0 < k) = true := by simp; omega
        clear hk0
        obtain ⟨hc1, hc2⟩ := HC.out _ hbel
        clear hc1 hc2
        go_wp2_with fail
        refine (writeByte_s w.heap.size w.heap.size _ 124 124 _ HBd rfl (by omega) hbel.size).mono ?_
        rintro e w0 ⟨rfl, HBd0, hb0⟩
        have hbel0 := hbel.trans hb0
        obtain ⟨hc1, hc2⟩ := HC.out _ hbel0
        clear hc2
        go_wp2_with fail
        refine (escape_any p _ (by omega)).mono ?_
        rintro e w1 ⟨rfl, hb1⟩
        have HBd1 := HBd0.below hb1
        have hbel1 := hbel0.trans (hb1.mono hbel0.size)
        clear hc1
        go_wp2_with fail
        refine (writeString_s w.heap.size w.heap.size _ _ _ HBd1 (by (try simp only [List.length_append, List.length_cons, List.length_nil]); omega) hbel1.size).mono ?_
        rintro e w2 ⟨rfl, HBd2, hb2⟩
        have hbel2 := hbel1.trans hb2
        go_wp2_with fail
        refine (writeByte_s w.heap.size w.heap.size _ 61 61 _ HBd2 rfl (by (try simp only [List.length_append, List.length_cons, List.length_nil]); omega) hbel2.size).mono ?_
        rintro e w3 ⟨rfl, HBd3, hb3⟩
        have hbel3 := hbel2.trans hb3
        obtain ⟨hc3, hc4⟩ := HC.out _ hbel3
        clear hc3
        go_wp2_with fail
        refine (escape_any q _ (by omega)).mono ?_
        rintro e w4 ⟨rfl, hb4⟩
        have HBd4 := HBd3.below hb4
        have hbel4 := hbel3.trans (hb4.mono hbel3.size)
        clear hc4
        go_wp2_with fail
        refine (writeString_s w.heap.size w.heap.size _ _ _ HBd4 (by (try simp only [List.length_append, List.length_cons, List.length_nil]); omega) hbel4.size).mono ?_
        rintro e w5 ⟨rfl, HBd5, hb5⟩
        have hbel5 := hbel4.trans hb5
        go_wp2
        go_roundw
        case rel => exact ⟨k + 1, by omega, by go_num, by rw [HK.out]; exact HBd5, hbel5, Nat.lt_of_lt_of_le hsz (Nat.le_trans hb0.size (Nat.le_trans hb1.size (Nat.le_trans hb2.size (Nat.le_trans hb3.size (Nat.le_trans hb4.size hb5.size)))))⟩
        case measure => simp [intOf]; omega
    · have HT := Lib.hid (show pairsK ps k = pairsK ps ps.length by rw [show k = ps.length by omega])
      rw [HT.out] at HBd
      go_wp2_with (go_at_call 33; refine (string_s w.heap.size w.heap.size _ _ HBd hbel.size).mono ?_; rintro e w1 ⟨rfl, hb1⟩)
      go_ret
      exact ⟨by rw [HE.out]; rfl, hbel.trans hb1⟩

end Go.Proofs.YtelddbgnhfhkiabDoor
