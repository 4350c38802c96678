/-
  The walk of identitylaw01.FoldWild: true, whatever the string, the parts and the place.
-/
import Derived.Test.YtelddbgnhfhkiaaDoorFoldW
set_option linter.unusedVariables false
set_option linter.unusedSimpArgs false
set_option linter.unnecessarySimpa false
namespace Go.Proofs.YtelddbgnhfhkiaaDoor
open Go.RowKit Go.PlainAid

theorem news_take {w : World} {b off : Nat} {l : List ByteArray} (k : Nat) (h : IsStrs w b off l) : ∀ j u, (scells (l.take k))[j]? = some u → w.cell? ((⟨b, off, none⟩ : Addr).add j) = some u := fun j u hu => by
  unfold scells at hu
  rw [List.getElem?_map] at hu
  obtain ⟨p, hp, rfl⟩ := Option.map_eq_some_iff.1 hu
  have hj : j < k ∧ j < l.length := by
    have := (List.getElem?_eq_some_iff.1 hp).1; rw [List.length_take] at this; omega
  rw [List.getElem?_take, if_pos hj.1] at hp
  rw [WideShapes.add_plain, h.2 j hj.2]
  unfold partAt; rw [List.getD_eq_getElem?_getD, hp]; rfl
theorem news_drop {w : World} {b off : Nat} {l : List ByteArray} (k : Nat) (h : IsStrs w b off l) : ∀ j u, (scells (l.drop k))[j]? = some u → w.cell? ((⟨b, off + k, none⟩ : Addr).add j) = some u := fun j u hu => by
  unfold scells at hu
  rw [List.getElem?_map] at hu
  obtain ⟨p, hp, rfl⟩ := Option.map_eq_some_iff.1 hu
  have hj : k + j < l.length := by
    have := (List.getElem?_eq_some_iff.1 hp).1; rw [List.length_drop] at this; omega
  rw [List.getElem?_drop] at hp
  rw [WideShapes.add_plain, Nat.add_assoc, h.2 (k + j) hj]
  unfold partAt; rw [List.getD_eq_getElem?_getD, hp]; rfl

theorem scells_more (l : List ByteArray) (k : Nat) : scells (moreL l k) = scells (l.take k) ++ scells [⟨#[]⟩] ++ scells (l.drop k) := by
  unfold moreL scells; rw [List.map_append, List.map_append]; rfl

set_option maxRecDepth 100000 in
set_option maxHeartbeats 4000000 in
theorem wild_more (s : ByteArray) (b off cap : Nat) (l : List ByteArray) (at_ : Int) (w : World) (hst : IsStrs w b off l) (hcap : l.length ≤ cap) (hcm : cap ≤ maxLen) (hm : MaxOk w) (hlt : s.size ≤ 300) (hf : fewB l = true) (h2 : 2 ≤ l.length) (ha0 : 0 ≤ at_) (ha1 : at_ ≤ 255) :
    Calls Tryd.prog 9 #[.string s, .slice (some ⟨b, off, none⟩) l.length cap, .int .u8 at_] w fun e w' => e = .returned (.bool true) ∧ Below w.heap.size w w' := by
  have hB := Below.refl w.heap.size w
  have hf1 : shortB l = true ∧ l.length ≤ 8 := by unfold fewB at hf; simpa using hf
  have hsh := short_at hf1.1
  have h8 := hf1.2
  have HP := Lib.hid (show ∀ p ∈ l, p.size ≤ 1000000000 from fun p hp => Nat.le_trans (hsh p hp) (by omega))
  have hfs := foldS_size s
  have k1 : matchB s [⟨#[]⟩, ⟨#[]⟩] = true := match_two s
  have k2 := match_fold s l
  have hst' : StrsAt w (some ⟨b, off, none⟩) l.length cap l := ⟨rfl, hcap, hcm, fun _ => ⟨b, off, rfl, hst⟩⟩
  clear hsh hf1
  go_enter Tryd.func9, Tryd.ntmps9
  go_wp2_with (go_at_call 30; refine (few_at _ _ _ l _ hst').mono ?_; rintro e w' ⟨rfl, rfl⟩)
  refine (match_n s _ _ _ _ [⟨#[]⟩, ⟨#[]⟩] _ rfl (strs_new2 w _ _) (by omega) (by decide +kernel) (by decide) (by decide) (by decide) (hm.below (hB.alloc hB.size _) hm.lt)).mono ?_
  rintro e w1 ⟨rfl, hb⟩
  have hB1 : Below w.heap.size w w1 := (hB.alloc hB.size _).trans (hb.mono (by simp))
  clear hb hB
  go_wp2_with fail
  refine (fmatch_at s _ _ _ l _ (hst'.below hB1) (by omega) hf (hm.below hB1 hm.lt)).mono ?_
  rintro e w2 ⟨rfl, hb⟩
  have hB2 : Below w.heap.size w w2 := hB1.trans (hb.mono hB1.size)
  clear hb hB1
  go_wp2_with fail
  refine (fold_s s _ (by omega)).mono ?_
  rintro e w3 ⟨rfl, hb⟩
  have hB3 : Below w.heap.size w w3 := hB2.trans (hb.mono hB2.size)
  clear hb hB2
  go_wp2_with fail
  refine (fmatch_at (foldS s) _ _ _ l _ (hst'.below hB3) (by omega) hf (hm.below hB3 hm.lt)).mono ?_
  rintro e w4 ⟨rfl, hb⟩
  have hB4 : Below w.heap.size w w4 := hB3.trans (hb.mono hB3.size)
  clear hb hB3
  obtain ⟨k, hk, hk1, hk2⟩ : ∃ k : Nat, (1 : Int) + at_ % ((l.length : Int) - 1) = (k : Int) ∧ 1 ≤ k ∧ k + 1 ≤ l.length := by
    have h0 := Int.emod_nonneg at_ (show (l.length : Int) - 1 ≠ 0 by omega)
    have h1 := Int.emod_lt_of_pos at_ (show 0 < (l.length : Int) - 1 by omega)
    exact ⟨(1 + at_ % ((l.length : Int) - 1)).toNat, by omega, by omega, by omega⟩
  have HN1 := Lib.hid (news_take k (hst.below hB4 hst.1))
  have HB4 := hB4.size
  have k3 := match_more s l k hk1 hk2
  have HQ := Lib.hid (show ∀ p ∈ moreL l k, p.size ≤ 1000000000 from fun p hp => by
    unfold moreL at hp
    rcases List.mem_append.1 hp with h | h
    · rcases List.mem_append.1 h with h | h
      · exact HP.out p (List.mem_of_mem_take h)
      · have : p = ByteArray.empty := by simpa using h
        rw [this]; show (0 : Nat) ≤ _; omega
    · exact HP.out p (List.mem_of_mem_drop h))
  go_wp2_with (first
    | (at_builtin; refine app_strs w4 (World.ownsRow_nil w4 w.heap.size 9 1) (.tmp 49) (.tmp 52) ⟨b, off, none⟩ k cap (l.take k) ?_ ?_ ?_ ?_ ?_ ?_ ?_ ?_ ?_; exact rfl; exact rfl; exact rfl; exact rfl; (rw [List.length_take]; omega); exact HN1.out; omega; exact HB4; intro v5 w5 hown5 hb5; rw [Nat.zero_add, List.nil_append] at hown5)
    | (at_builtin; refine app_strs (w5.alloc _) (hown5.alloc _) (.tmp 54) (.tmp 55) ⟨w5.heap.size, 0, none⟩ 1 1 [⟨#[]⟩] ?_ ?_ ?_ ?_ ?_ ?_ ?_ ?_ ?_; exact rfl; exact rfl; exact rfl; exact rfl; exact rfl; exact (cell_one_new _ _ _); omega; (simp; have := hb5.size; omega); intro v6 w6 hown6 hb6; have hB6 := ((hB4.trans hb5).alloc (Nat.le_trans HB4 hb5.size) _).trans hb6)
    | (at_builtin; refine app_strs w6 hown6 (.tmp 57) (.tmp 60) ⟨b, off + k, none⟩ (l.length - k) (cap - k) (l.drop k) ?_ ?_ ?_ ?_ ?_ ?_ ?_ ?_ ?_; exact rfl; exact rfl; exact rfl; exact rfl; (rw [List.length_drop]); exact (news_drop k (hst.below hB6 hst.1)); omega; exact hB6.size; intro v7 w7 hown7 hb7; have hB7 := hB6.trans hb7; obtain ⟨g, c7, hv7, hc7, hl7, hs7⟩ := strs_of_owns (n := k + 1 + (l.length - k)) (ps := moreL l k) (by rw [scells_more]; exact hown7) (by omega); rw [hv7]; clear hv7 hown7))
  refine (match_n s g 0 c7 _ (moreL l k) w7 hl7 hs7 (by omega) HQ.out (by omega) hc7 (by omega) (hm.below hB7 hm.lt)).mono ?_
  rintro e w8 ⟨rfl, hb⟩
  have hB8 : Below w.heap.size w w8 := hB7.trans (hb.mono hB7.size)
  clear hb
  go_wp2_with fail
  refine (fmatch_at s _ _ _ l _ (hst'.below hB8) (by omega) hf (hm.below hB8 hm.lt)).mono ?_
  rintro e w9 ⟨rfl, hb⟩
  have hB9 : Below w.heap.size w w9 := hB8.trans (hb.mono hB8.size)
  clear hb
  go_wp2_with (go_at_call 15; refine (alive_s _ (hm.below hB9 hm.lt)).mono ?_; rintro e w10 ⟨rfl, hb⟩)
  go_ret
  exact ⟨rfl, hB9.trans (hb.mono hB9.size)⟩

/-- fewer than two parts -/
theorem match_few (s : ByteArray) (l : List ByteArray) (h : l.length < 2) : matchB s l = false := by unfold matchB; simp; omega

set_option maxRecDepth 100000 in
set_option maxHeartbeats 4000000 in
theorem wild_s (s : ByteArray) (ao : Option Addr) (n cap : Nat) (l : List ByteArray) (at_ : Int) (w : World) (hst : StrsAt w ao n cap l) (hwf : (Lit.int .u8 at_).wf = true) (hm : MaxOk w) :
    Calls Tryd.prog 9 #[.string s, .slice ao n cap, .int .u8 at_] w fun e w' => e = .returned (.bool true) ∧ Below w.heap.size w w' := by
  have hB := Below.refl w.heap.size w
  have hat : 0 ≤ at_ ∧ at_ ≤ 255 := by
    simpa [Lit.wf, IntKind.min, IntKind.max, IntKind.signed, IntKind.bits] using hwf
  by_cases hlt : 300 < s.size
  · go_enter Tryd.func9, Tryd.ntmps9
    go_wp2_with (go_at_call 15; refine (alive_s _ hm).mono ?_; rintro e w1 ⟨rfl, hb⟩)
    go_ret
    exact ⟨rfl, hb⟩
  · cases hf : fewB l
    · go_enter Tryd.func9, Tryd.ntmps9
      go_wp2_with (first | (go_at_call 30; refine (few_at _ _ _ l _ hst).mono ?_; rintro e w' ⟨rfl, rfl⟩) | (go_at_call 15; refine (alive_s _ hm).mono ?_; rintro e w1 ⟨rfl, hb⟩))
      go_ret
      exact ⟨rfl, hb⟩
    · by_cases h2 : 2 ≤ l.length
      · obtain ⟨hl, hc, hcm, ha⟩ := hst
        subst hl
        obtain ⟨b, off, rfl, hi⟩ := ha (by omega)
        exact wild_more s b off cap l at_ w hi hc hcm hm (by omega) hf h2 hat.1 hat.2
      · have hfs := foldS_size s
        have k1 : matchB s [⟨#[]⟩, ⟨#[]⟩] = true := match_two s
        have k2 := match_few s l (by omega)
        have k3 := match_few (foldS s) l (by omega)
        have hln := hst.1
        have hn2 : n < 2 := by omega
        have hd : decide ((n : Int) < 2) = true := by simp; omega
        have HLN := Lib.hid hln; clear hln
        clear h2
        go_enter Tryd.func9, Tryd.ntmps9
        go_wp2_with (go_at_call 30; refine (few_at _ _ _ l _ hst).mono ?_; rintro e w' ⟨rfl, rfl⟩)
        refine (match_n s _ _ _ _ [⟨#[]⟩, ⟨#[]⟩] _ rfl (strs_new2 w _ _) (by omega) (by decide +kernel) (by decide) (by decide) (by decide) (hm.below (hB.alloc hB.size _) hm.lt)).mono ?_
        rintro e w1 ⟨rfl, hb⟩
        have hB1 : Below w.heap.size w w1 := (hB.alloc hB.size _).trans (hb.mono (by simp))
        clear hb hB
        go_wp2_with fail
        refine (fmatch_at s _ _ _ l _ (hst.below hB1) (by omega) hf (hm.below hB1 hm.lt)).mono ?_
        rintro e w2 ⟨rfl, hb⟩
        have hB2 : Below w.heap.size w w2 := hB1.trans (hb.mono hB1.size)
        clear hb hB1
        go_wp2_with fail
        refine (fold_s s _ (by omega)).mono ?_
        rintro e w3 ⟨rfl, hb⟩
        have hB3 : Below w.heap.size w w3 := hB2.trans (hb.mono hB2.size)
        clear hb hB2
        go_wp2_with fail
        refine (fmatch_at (foldS s) _ _ _ l _ (hst.below hB3) (by omega) hf (hm.below hB3 hm.lt)).mono ?_
        rintro e w4 ⟨rfl, hb⟩
        have hB4 : Below w.heap.size w w4 := hB3.trans (hb.mono hB3.size)
        clear hb hB3
        go_wp2_with fail
        refine (fmatch_at s _ _ _ l _ (hst.below hB4) (by omega) hf (hm.below hB4 hm.lt)).mono ?_
        rintro e w5 ⟨rfl, hb⟩
        have hB5 : Below w.heap.size w w5 := hB4.trans (hb.mono hB4.size)
        clear hb hB4
        go_wp2_with (go_at_call 15; refine (alive_s _ (hm.below hB5 hm.lt)).mono ?_; rintro e w10 ⟨rfl, hb⟩)
        go_ret
        exact ⟨rfl, hB5.trans (hb.mono hB5.size)⟩

end Go.Proofs.YtelddbgnhfhkiaaDoor
