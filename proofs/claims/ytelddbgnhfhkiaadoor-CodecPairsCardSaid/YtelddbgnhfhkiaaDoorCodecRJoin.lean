/-
  Contracts of the specification's Between and Join. Condition: at most 1000 strings of at most 1000000 bytes (Between: of at most 4000000).
-/
import Derived.Test.YtelddbgnhfhkiaaDoorCodecSame
import Derived.Test.YtelddbgnhfhkiaaDoorCodecREsc
import Derived.Test.YtelddbgnhfhkiaaDoorCodecLive
set_option linter.unusedVariables false
set_option linter.unusedSimpArgs false
set_option linter.unnecessarySimpa false
namespace Go.Proofs.YtelddbgnhfhkiaaDoor
open Go.RowKit Go.PlainAid

def barK (ps : List ByteArray) (k : Nat) : ByteArray := ofL (bar 124 (dataL (ps.take k)))
theorem ofL_append (l m : List UInt8) : ofL (l ++ m) = ofL l ++ ofL m := by
  apply ByteArray.ext
  rw [ByteArray.data_append]
  simp [ofL]
theorem barK_first (ps : List ByteArray) (h : 0 < ps.length) : barK ps (0 + 1) = barK ps 0 ++ partAt ps 0 := by
  unfold barK
  rw [dataL_take ps 0 h]
  have e : dataL (ps.take 0) = [] := rfl
  rw [e]
  show ofL (partAt ps 0).data.toList = ofL [] ++ partAt ps 0
  rw [ofL_data]
  apply ByteArray.ext
  rw [ByteArray.data_append]
  simp [ofL]
theorem barK_next (ps : List ByteArray) (k : Nat) (h : k < ps.length) (h0 : 0 < k) : barK ps (k + 1) = (barK ps k ++ ⟨#[124]⟩) ++ partAt ps k := by
  unfold barK
  rw [dataL_take ps k h, bar_snoc _ _ _ (by intro e; have := congrArg List.length e; unfold dataL at this; rw [List.length_map, List.length_take, List.length_nil] at this; omega)]
  rw [show (124 : UInt8) :: (partAt ps k).data.toList = [124] ++ (partAt ps k).data.toList from rfl, ← List.append_assoc, ofL_append, ofL_append, ofL_data]
  rfl
theorem barK_size (ps : List ByteArray) (k : Nat) (hp : ∀ j, j < ps.length → (partAt ps j).size ≤ 4000000) (h : ps.length ≤ 1000) : (barK ps k).size ≤ 5000000000 := by
  have h1 := bar_len 124 4000000 (dataL (ps.take k)) (fun p hq => by
    unfold dataL at hq
    obtain ⟨x, hx, rfl⟩ := List.mem_map.1 hq
    have := great_all hp x (List.mem_of_mem_take hx)
    rw [← Lib.size_eq]; exact this)
  have h2 : (dataL (ps.take k)).length ≤ 1000 := by simp [dataL]; omega
  have := Nat.mul_le_mul_right (4000000 + 1) h2
  show (bar 124 (dataL (ps.take k))).length ≤ _
  omega

set_option maxRecDepth 100000 in
set_option maxHeartbeats 4000000 in
theorem between_s (ao : Option Addr) (n cap : Nat) (ps : List ByteArray) (w : World) (h : StrsAt w ao n cap ps) (hn : ps.length ≤ 1000) (hp : ∀ j, j < ps.length → (partAt ps j).size ≤ 4000000) :
    Calls Tryd.prog 73 #[.slice ao n cap, .string ⟨#[124]⟩] w fun e w' => e = .returned (.string (barK ps ps.length)) ∧ Below w.heap.size w w' := by
  obtain ⟨h1, h2, h3, h4⟩ := h
  subst h1
  unfold maxLen at h3
  have H4 := Lib.hid h4; clear h4
  have HP := Lib.hid hp; clear hp
  go_enter Tryd.func73, Tryd.ntmps73
  go_wp2
  go_loopw [5, 6] (fun sv i wr => ∃ (k : Nat) (x : ByteArray), k ≤ ps.length ∧ i = .int .i64 k ∧ sv = .string x ∧ Hid (x = barK ps k) ∧ x.size ≤ 5000000000 ∧ Below w.heap.size w wr) (fun _ i _ => ps.length - (intOf i).toNat)
  case atStart => exact ⟨0, ⟨#[]⟩, Nat.zero_le _, rfl, rfl, Lib.hid rfl, Nat.zero_le _, Below.refl _ _⟩
  case round =>
    obtain ⟨k, x, hk, rfl, rfl, HX, hxs, hbel⟩ := hrel
    by_cases hlt : k < ps.length
    · obtain ⟨b, off, rfl, hs⟩ := H4.out (by omega)
      have hcell := (hs.below hbel hs.1).2 k hlt
      clear hs
      have hpk := HP.out k hlt
      have hbs := barK_size ps (k + 1) HP.out hn
      obtain ⟨p, hpe⟩ : ∃ p, p = partAt ps k := ⟨_, rfl⟩
      rw [← hpe] at hcell hpk
      by_cases hk0 : k = 0
      · have HK := Lib.hid (show barK ps (k + 1) = x ++ p by rw [HX.out, hpe]; subst hk0; exact barK_first ps hlt)
        clear hpe
        have hd0 : decide (0 < k) = false := by simp; omega
        clear hk0
        rw [HK.out] at hbs
        go_wp2
        go_roundw
        case rel => exact ⟨k + 1, x ++ p, by omega, by go_num, rfl, Lib.hid HK.out.symm, hbs, hbel⟩
        case measure => simp [intOf]; omega
      · have HK := Lib.hid (show barK ps (k + 1) = (x ++ ⟨#[124]⟩) ++ p by rw [HX.out, hpe]; exact barK_next ps k hlt (by omega))
        clear hpe
        have hd0 : decide (0 < k) = true := by simp; omega
        clear hk0
        rw [HK.out] at hbs
        have hx1 : (x ++ (⟨#[124]⟩ : ByteArray)).size = x.size + 1 := by rw [ByteArray.size_append]; rfl
        have hx2 : (x ++ (⟨#[124]⟩ : ByteArray)).size ≤ 5000000001 := by omega
        go_wp2
        go_roundw
        case rel => exact ⟨k + 1, (x ++ ⟨#[124]⟩) ++ p, by omega, by go_num, rfl, Lib.hid HK.out.symm, hbs, hbel⟩
        case measure => simp [intOf]; omega
    · have HE := Lib.hid (show barK ps ps.length = x by rw [HX.out, show k = ps.length by omega])
      go_wp2
      go_ret
      exact ⟨by rw [HE.out]; rfl, hbel⟩

/-- the escaped strings -/
def escP (ps : List ByteArray) : List ByteArray := ps.map fun p => ⟨(escL p.data.toList).toArray⟩
theorem escP_data (ps : List ByteArray) : dataL (escP ps) = (dataL ps).map escL := by simp [dataL, escP]
theorem escP_at (ps : List ByteArray) (j : Nat) (h : j < ps.length) : partAt (escP ps) j = ⟨(escL (partAt ps j).data.toList).toArray⟩ := by
  unfold partAt escP
  rw [List.getD_eq_getElem?_getD, List.getD_eq_getElem?_getD, List.getElem?_map, List.getElem?_eq_getElem h]; rfl
theorem escP_take (ps : List ByteArray) (k : Nat) (h : k < ps.length) : scells (escP (ps.take (k + 1))) = scells (escP (ps.take k)) ++ [.string ⟨(escL (partAt ps k).data.toList).toArray⟩] := by
  unfold partAt escP scells
  rw [List.take_succ_eq_append_getElem h, List.map_append, List.map_append, List.getD_eq_getElem?_getD, List.getElem?_eq_getElem h]; rfl
theorem joinS_bar (ps : List ByteArray) (h0 : ps.length ≠ 0) (h1 : dataL ps ≠ [[45]]) : joinS ps = barK (escP ps) (escP ps).length := by
  unfold joinS joinL barK
  rw [if_neg (by intro e; have := congrArg List.length e; simp [dataL] at this; subst this; exact h0 rfl), if_neg h1, List.take_length, escP_data]

set_option maxRecDepth 100000 in
set_option maxHeartbeats 4000000 in
theorem rjoin_s (ao : Option Addr) (n cap : Nat) (ps : List ByteArray) (w : World) (h : StrsAt w ao n cap ps) (hn : ps.length ≤ 1000) (hp : ∀ j, j < ps.length → (partAt ps j).size ≤ 1000000) :
    Calls Tryd.prog 41 #[.slice ao n cap] w fun e w' => e = .returned (.string (joinS ps)) ∧ Below w.heap.size w w' := by
  obtain ⟨h1, h2, h3, h4⟩ := h
  subst h1
  by_cases c0 : ps.length = 0
  · have HE := Lib.hid (show joinS ps = ⟨#[45]⟩ by
      have : ps = [] := List.eq_nil_of_length_eq_zero c0
      subst this; rfl)
    have hd2 : ((ps.length : Int) == 0) = true := beq_iff_eq.2 (by omega)
    go_enter Tryd.func41, Tryd.ntmps41
    go_wp2
    go_ret
    exact ⟨by rw [HE.out]; rfl, Below.refl _ _⟩
  · obtain ⟨b, off, rfl, hs⟩ := h4 (by omega)
    have HB := Lib.hid hs
    have hcell0 := hs.2 0 (by omega)
    obtain ⟨p0, hp0⟩ : ∃ p, p = partAt ps 0 := ⟨_, rfl⟩
    rw [← hp0, Nat.add_zero] at hcell0
    have hd2 : ((ps.length : Int) == 0) = false := beq_false_of_ne (by omega)
    by_cases c1 : ps.length = 1 ∧ p0.data.toList = [45]
    · have HE := Lib.hid (show joinS ps = ⟨#[37, 50, 68]⟩ by
        have hd : dataL ps = [[45]] := by
          match ps, c1, hp0 with
          | [p], c1, hp0 =>
            have : p = p0 := hp0.symm
            simp [dataL, this, c1.2]
        unfold joinS joinL; rw [hd]; rfl)
      have hd3 : ((ps.length : Int) == 1) = true := beq_iff_eq.2 (by omega)
      obtain rfl : p0 = ⟨#[45]⟩ := by rw [← Lib.mk_data p0, c1.2]
      clear c1 hp0
      go_enter Tryd.func41, Tryd.ntmps41
      go_wp2
      go_ret
      exact ⟨by rw [HE.out]; rfl, Below.refl _ _⟩
    · have HE := Lib.hid (show joinS ps = barK (escP ps) (escP ps).length from joinS_bar ps c0 (by
          intro e
          have hl := congrArg List.length e
          have hl1 : ps.length = 1 := by simpa [dataL] using hl
          exact partAt_ne hl1 (by rw [← hp0]; exact fun h => c1 ⟨hl1, h⟩) e))
      have HP := Lib.hid hp; clear hp hs
      have c2 : ((ps.length : Int) == 1) = false ∨ ((ps.length : Int) == 1) = true ∧ (p0.toList == [45]) = false := by
        by_cases h : ps.length = 1
        · refine .inr ⟨beq_iff_eq.2 (by omega), ?_⟩
          rw [Lib.toList_data]
          simpa using fun e => c1 ⟨h, e⟩
        · exact .inl (beq_false_of_ne (by omega))
      clear c1 hp0
      rcases c2 with c2 | ⟨c2, c3⟩
      all_goals
        go_enter Tryd.func41, Tryd.ntmps41
        go_wp2
        go_loopw [3, 4] (fun lv i wr => ∃ k : Nat, k ≤ ps.length ∧ i = .int .i64 k ∧ wr.ownsRow w.heap.size 9 1 lv k (scells (escP (ps.take k))) ∧ Below w.heap.size w wr)
          (fun _ i _ => ps.length - (intOf i).toNat)
        case atStart => exact ⟨0, Nat.zero_le _, rfl, World.ownsRow_nil _ _ _ _, Below.refl _ _⟩
        case round =>
          obtain ⟨k, hk, rfl, hown, hbel⟩ := hrel
          by_cases hlt : k < ps.length
          · have hpk := HP.out k hlt
            have hcell := (HB.out.below hbel HB.out.1).2 k hlt
            have HT := Lib.hid (escP_take ps k hlt)
            obtain ⟨p, hpe⟩ : ∃ p, p = partAt ps k := ⟨_, rfl⟩
            rw [← hpe] at hcell hpk HT
            clear hpe
            go_wp2_with (first
              | (go_at_call 36; refine (rescape_any p _ (by omega)).mono ?_; rintro e w1 ⟨rfl, hb1⟩; have hown1 := own_below hown hb1; have hbel1 := hbel.trans (hb1.mono hbel.size))
              | (at_builtin; go_must (refine push_str _ hown1 (.tmp 23) (.tmp 29) _ ?_ ?_ ?_ ?_ ?_ ?_ ?_; exact rfl; exact rfl; exact rfl; exact rfl; omega; exact hbel1.size; intro v3 w3 hown3 hb3)))
            go_roundw
            case rel => exact ⟨k + 1, by omega, by go_num, by rw [HT.out]; exact hown3, hbel1.trans hb3⟩
            case measure => simp [intOf]; omega
          · have hown2 := hown
            rw [List.take_of_length_le (show ps.length ≤ k by omega), show k = ps.length by omega] at hown2
            have hel : (escP ps).length = ps.length := by simp [escP]
            obtain ⟨ao, cap2, rfl, hat⟩ := strs_own hown2 hel
            have hsz : ∀ j, j < (escP ps).length → (partAt (escP ps) j).size ≤ 4000000 := fun j hj => by
              rw [hel] at hj
              rw [escP_at ps j hj]
              have h5 := escL_length (partAt ps j).data.toList
              rw [← Lib.size_eq] at h5
              have := HP.out j hj
              show (escL (partAt ps j).data.toList).length ≤ _
              omega
            have HSZ := Lib.hid hsz; clear hsz hown2 hown
            go_wp2_with (go_at_call 73; refine (between_s ao ps.length cap2 (escP ps) _ hat (by omega) HSZ.out).mono ?_; rintro e w1 ⟨rfl, hb1⟩)
            go_ret
            exact ⟨by rw [HE.out, hel]; rfl, hbel.trans (hb1.mono hbel.size)⟩

end Go.Proofs.YtelddbgnhfhkiaaDoor
