/-
  Plain functions for writing lists, and the contract of codec.Join. Condition: at most 1000 strings of at most 1000000 bytes.
-/
import Derived.Test.YtelddbgnhfhkiabDoorCodecStr
import Derived.Test.YtelddbgnhfhkiabDoorCodecSplit
import Derived.Test.YtelddbgnhfhkiabDoorLawFrame
set_option linter.unusedVariables false
set_option linter.unusedSimpArgs false
set_option linter.unnecessarySimpa false
namespace Go.Proofs.YtelddbgnhfhkiabDoor
open Go.RowKit Go.PlainAid

/-- pieces with the byte b between them -/
def bar (b : UInt8) : List (List UInt8) → List UInt8
  | [] => []
  | [p] => p
  | p :: q :: r => p ++ b :: bar b (q :: r)
theorem bar_snoc (b : UInt8) (p : List UInt8) : ∀ l : List (List UInt8), l ≠ [] → bar b (l ++ [p]) = bar b l ++ b :: p
  | [], h => absurd rfl h
  | [q], _ => rfl
  | q :: r :: t, _ => by
    have ih := bar_snoc b p (r :: t) (by simp)
    show q ++ b :: bar b (r :: t ++ [p]) = (q ++ b :: bar b (r :: t)) ++ b :: p
    rw [ih]; simp
def dataL (ps : List ByteArray) : List (List UInt8) := ps.map fun p => p.data.toList
theorem dataL_take (ps : List ByteArray) (k : Nat) (h : k < ps.length) : dataL (ps.take (k + 1)) = dataL (ps.take k) ++ [(partAt ps k).data.toList] := by
  unfold dataL partAt
  rw [List.take_succ_eq_append_getElem h, List.map_append, List.getD_eq_getElem?_getD, List.getElem?_eq_getElem h]; rfl
def joinL (l : List (List UInt8)) : List UInt8 := if l = [] then [45] else if l = [[45]] then [37, 50, 68] else bar 124 (l.map escL)
def joinS (ps : List ByteArray) : ByteArray := ofL (joinL (dataL ps))
theorem bar_first (b : UInt8) (l : List (List UInt8)) (p : List UInt8) (h : l.length = 0) : bar b ((l ++ [p]).map escL) = escL p := by
  cases l with
  | nil => rfl
  | cons _ _ => simp at h
theorem bar_more (b : UInt8) (l : List (List UInt8)) (p : List UInt8) (h : 0 < l.length) : bar b ((l ++ [p]).map escL) = bar b (l.map escL) ++ [b] ++ escL p := by
  have hne : l.map escL ≠ [] := by intro e; have := congrArg List.length e; simp at this; subst this; simp at h
  rw [List.map_append, List.map_cons, List.map_nil, bar_snoc b _ _ hne]; simp
theorem bar_len (b : UInt8) (m : Nat) : ∀ l : List (List UInt8), (∀ p ∈ l, p.length ≤ m) → (bar b l).length ≤ l.length * (m + 1)
  | [], _ => by simp [bar]
  | [p], h => by have := h p (by simp); simp [bar]; omega
  | p :: q :: r, h => by
    have ih := bar_len b m (q :: r) (fun x hx => h x (by simp at hx ⊢; right; exact hx))
    have := h p (by simp)
    rw [show bar b (p :: q :: r) = p ++ b :: bar b (q :: r) from rfl, List.length_append, List.length_cons, List.length_cons, Nat.add_mul]
    omega
/-- the bytes that are written behind k strings -/
def joinK (ps : List ByteArray) (k : Nat) : List UInt8 := bar 124 ((dataL (ps.take k)).map escL)
theorem joinK_first (ps : List ByteArray) (h : 0 < ps.length) : joinK ps (0 + 1) = joinK ps 0 ++ escL (partAt ps 0).data.toList := by
  unfold joinK; rw [dataL_take ps 0 h, bar_first _ _ _ (by simp [dataL])]; simp [dataL, bar]
theorem joinK_next (ps : List ByteArray) (k : Nat) (h : k < ps.length) (h0 : 0 < k) : joinK ps (k + 1) = joinK ps k ++ [124] ++ escL (partAt ps k).data.toList := by
  unfold joinK; rw [dataL_take ps k h, bar_more _ _ _ (by simp [dataL]; omega)]
theorem joinK_len (ps : List ByteArray) (k : Nat) (hp : ∀ j, j < ps.length → (partAt ps j).size ≤ 1000000) (h : ps.length ≤ 1000) : (joinK ps k).length ≤ 4000000000 := by
  have h1 := bar_len 124 3000000 ((dataL (ps.take k)).map escL) (fun p hq => by
    obtain ⟨q, hq1, rfl⟩ := List.mem_map.1 hq
    unfold dataL at hq1
    obtain ⟨x, hx, rfl⟩ := List.mem_map.1 hq1
    obtain ⟨j, hj, rfl⟩ := List.getElem_of_mem (List.mem_of_mem_take hx)
    have := hp j hj
    unfold partAt at this
    rw [List.getD_eq_getElem?_getD, List.getElem?_eq_getElem hj, Option.getD_some] at this
    have h3 := escL_length ps[j].data.toList
    rw [← Lib.size_eq] at h3
    omega)
  have h2 : ((dataL (ps.take k)).map escL).length ≤ 1000 := by simp [dataL]; omega
  unfold joinK
  have := Nat.mul_le_mul_right (3000000 + 1) h2
  omega

theorem partAt_ne {ps : List ByteArray} (h : ps.length = 1) (hne : (partAt ps 0).data.toList ≠ [45]) : dataL ps ≠ [[45]] := by
  match ps, h with
  | [p], _ =>
    intro e
    have : p.data.toList = [45] := by simpa [dataL] using e
    exact hne this

set_option maxRecDepth 100000 in
set_option maxHeartbeats 4000000 in
theorem join_s (ao : Option Addr) (n cap : Nat) (ps : List ByteArray) (w : World) (h : StrsAt w ao n cap ps) (hn : ps.length ≤ 1000) (hp : ∀ j, j < ps.length → (partAt ps j).size ≤ 1000000) :
    Calls Tryd.prog 21 #[.slice ao n cap] w fun e w' => e = .returned (.string (joinS ps)) ∧ Below w.heap.size w w' := by
  obtain ⟨h1, h2, h3, h4⟩ := h
  subst h1
  by_cases c0 : ps.length = 0
  · have HE := Lib.hid (show joinS ps = ⟨#[45]⟩ by
      have : ps = [] := List.eq_nil_of_length_eq_zero c0
      subst this; rfl)
    have hd2 : ((ps.length : Int) == 0) = true := beq_iff_eq.2 (by omega)
    go_enter Tryd.func21, Tryd.ntmps21
    go_wp2
    go_ret
    exact ⟨by rw [HE.out]; rfl, Below.refl _ _⟩
  · obtain ⟨b, off, rfl, hs⟩ := h4 (by omega)
    have HB := Lib.hid hs
    have hcell0 := hs.2 0 (by omega)
    obtain ⟨p0, hp0⟩ : ∃ p, p = partAt ps 0 := ⟨_, rfl⟩
    rw [← hp0, Nat.add_zero] at hcell0
    have hd2 : ((ps.length : Int) == 0) = false := beq_false_of_ne (by omega)
    by_cases c1 : ps.length = 1 ∧ p0.data.toList = [45]
    · have HE := Lib.hid (show joinS ps = ⟨#[37, 50, 68]⟩ by
        have hd : dataL ps = [[45]] := by
          match ps, c1, hp0 with
          | [p], c1, hp0 =>
            have : p = p0 := hp0.symm
            simp [dataL, this, c1.2]
        unfold joinS joinL; rw [hd]; rfl)
      have hd3 : ((ps.length : Int) == 1) = true := beq_iff_eq.2 (by omega)
      obtain rfl : p0 = ⟨#[45]⟩ := by rw [← Lib.mk_data p0, c1.2]
      clear c1 hp0
      go_enter Tryd.func21, Tryd.ntmps21
      go_wp2
      go_ret
      exact ⟨by rw [HE.out]; rfl, Below.refl _ _⟩
    · have HE := Lib.hid (show joinS ps = ofL (joinK ps ps.length) by
        unfold joinS joinL joinK
        rw [if_neg (by intro e; have := congrArg List.length e; simp [dataL] at this; subst this; simp at c0), if_neg (by
          intro e
          have hl := congrArg List.length e
          have hl1 : ps.length = 1 := by simpa [dataL] using hl
          exact partAt_ne hl1 (by rw [← hp0]; exact fun h => c1 ⟨hl1, h⟩) e), List.take_length])
      have HN := Lib.hid (bld_new w)
      have HP := Lib.hid hp; clear hp hs
      have c2 : ((ps.length : Int) == 1) = false ∨ ((ps.length : Int) == 1) = true ∧ (p0.toList == [45]) = false := by
        by_cases h : ps.length = 1
        · refine .inr ⟨beq_iff_eq.2 (by omega), ?_⟩
          rw [Lib.toList_data]
          simpa using fun e => c1 ⟨h, e⟩
        · exact .inl (beq_false_of_ne (by omega))
      clear c1 hp0
      rcases c2 with c2 | ⟨c2, c3⟩
      all_goals
        go_enter Tryd.func21, Tryd.ntmps21
        go_wp2
        go_loopw [19] (fun i wr => ∃ k : Nat, k ≤ ps.length ∧ i = .int .i64 k ∧ Bld w.heap.size w.heap.size (joinK ps k) wr ∧ Below w.heap.size w wr ∧ w.heap.size < wr.heap.size)
          (fun i _ => ps.length - (intOf i).toNat)
        case atStart => exact ⟨0, Nat.zero_le _, rfl, HN.out, (Below.refl _ _).alloc (Nat.le_refl _) _, by simp⟩
        case round =>
          obtain ⟨k, hk, rfl, HBd, hbel, hsz⟩ := hrel
          have hln := joinK_len ps k HP.out hn
          by_cases hlt : k < ps.length
          · have hpk := HP.out k hlt
            have hsr := HB.out.below hbel HB.out.1
            obtain ⟨p, hpe⟩ : ∃ p, p = partAt ps k := ⟨_, rfl⟩
            have hel := escL_length p.data.toList
            rw [← Lib.size_eq] at hel
            have hel2 : (⟨(escL p.data.toList).toArray⟩ : ByteArray).size = (escL p.data.toList).length := by rw [Lib.size_eq]
            have hcell := hsr.2 k hlt
            by_cases hk0 : k = 0
            · have HK := Lib.hid (show joinK ps (k + 1) = joinK ps k ++ escL (partAt ps k).data.toList by subst hk0; exact joinK_first ps hlt)
              rw [← hpe] at HK hpk hcell
              clear hpe
              have hd0 : decide (0 < k) = false := by simp; omega
              clear hk0
              go_wp2_with (first
                | (go_at_call 25; refine (escape_any p _ (by omega)).mono ?_; rintro e w1 ⟨rfl, hb1⟩; have HBd1 := HBd.below hb1; have hbel1 := hbel.trans (hb1.mono hbel.size))
                | (go_at_call 32; refine (writeString_s w.heap.size w.heap.size _ _ _ HBd1 (by omega) hbel1.size).mono ?_; rintro e w2 ⟨rfl, HBd2, hb2⟩))
              go_roundw
              case rel => exact ⟨k + 1, by omega, by go_num, by rw [HK.out]; exact HBd2, hbel1.trans hb2, Nat.lt_of_lt_of_le hsz (Nat.le_trans hb1.size hb2.size)⟩
              case measure => simp [intOf]; omega
            · have HK := Lib.hid (joinK_next ps k hlt (by omega))
              rw [← hpe] at HK hpk hcell
              have HPE := Lib.hid hpe
              clear hpe
              have hd0 : decide (0 < k) = true := by simp; omega
              clear hk0
              go_wp2_with fail
              refine (writeByte_s w.heap.size w.heap.size _ 124 124 _ HBd rfl (by omega) hbel.size).mono ?_
              rintro e w0 ⟨rfl, HBd0, hb0⟩
              have hbel0 := hbel.trans hb0
              have hcell0 := (HB.out.below hbel0 HB.out.1).2 k hlt
              rw [← HPE.out] at hcell0
              clear hcell
              go_wp2_with (first
                | (go_at_call 25; refine (escape_any p _ (by omega)).mono ?_; rintro e w1 ⟨rfl, hb1⟩; have HBd1 := HBd0.below hb1; have hbel1 := hbel0.trans (hb1.mono hbel0.size))
                | (go_at_call 32; refine (writeString_s w.heap.size w.heap.size _ _ _ HBd1 (by simp only [List.length_append, List.length_cons, List.length_nil]; omega) hbel1.size).mono ?_; rintro e w2 ⟨rfl, HBd2, hb2⟩))
              go_roundw
              case rel => exact ⟨k + 1, by omega, by go_num, by rw [HK.out]; exact HBd2, hbel1.trans hb2, Nat.lt_of_lt_of_le hsz (Nat.le_trans hb0.size (Nat.le_trans hb1.size hb2.size))⟩
              case measure => simp [intOf]; omega
          · have HT := Lib.hid (show joinK ps k = joinK ps ps.length by rw [show k = ps.length by omega])
            rw [HT.out] at HBd
            go_wp2_with (go_at_call 33; refine (string_s w.heap.size w.heap.size _ _ HBd hbel.size).mono ?_; rintro e w1 ⟨rfl, hb1⟩)
            go_ret
            exact ⟨by rw [HE.out]; rfl, hbel.trans hb1⟩

end Go.Proofs.YtelddbgnhfhkiabDoor
