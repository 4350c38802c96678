/-
  Texts of the schema layer and of those beneath it, joined: KeyC, KeyD. Conditions stand at each contract.
-/
import Derived.Test.YtgepcbggkfjlgaaGreatDoorM04
import Derived.Test.YtgepcbggkfjlgaaGreatDoorM05
import Derived.Test.YtgepcbggkfjlgaaGreatDoorM08

section
/-
  Contracts of the specification's windows and Check, of Great, Same and Instant. Condition: strings of at most 1000000000 bytes.
-/
set_option maxRecDepth 100000
set_option linter.unusedVariables false
set_option linter.unusedSimpArgs false
set_option linter.unnecessarySimpa false
namespace Go.Proofs.YtgepcbggkfjlgaaGreatDoor
open Go.RowKit Go.PlainAid

set_option maxHeartbeats 4000000 in
theorem windows_k (k : Ky) (r : Bool) (w : World) (hr : winB k = r) :
    Calls Tryz.prog 36 #[kV k] w fun e w' => e = .returned (.bool r) ∧ Below w.heap.size w w' := by
  obtain ⟨i, s, sf, su, af, au⟩ := k
  have HB := Lib.hid (box_below w (kB ⟨i, s, sf, su, af, au⟩))
  unfold winB at hr
  dsimp only at hr
  unfold kV
  unfold kB kcells at *
  by_cases h1 : 0 ≤ af
  · rw [decide_eq_true h1, Bool.true_and] at hr
    have d1 := decide_eq_true h1
    by_cases h2 : af ≤ sf
    · rw [decide_eq_true h2, Bool.true_and] at hr
      have d2 := decide_eq_true h2
      by_cases h3 : sf ≤ su
      · rw [decide_eq_true h3, Bool.true_and] at hr
        have d3 := decide_eq_true h3
        by_cases h4 : su ≤ au
        · rw [decide_eq_true h4, Bool.true_and] at hr
          have d4 := decide_eq_true h4
          by_cases h5 : au ≤ 1099511627776
          · rw [decide_eq_true h5, Bool.true_and] at hr
            have d5 := decide_eq_true h5
            have d6 := hr
            go_enter Tryz.func36, Tryz.ntmps36
            go_wp2_with fail
            go_ret
            exact ⟨by first | rfl | (rw [← hr]; rfl), HB.out⟩
          · rw [decide_eq_false h5, Bool.false_and] at hr
            subst hr
            have d5 := decide_eq_false h5
            go_enter Tryz.func36, Tryz.ntmps36
            go_wp2_with fail
            go_ret
            exact ⟨rfl, HB.out⟩
        · rw [decide_eq_false h4, Bool.false_and, Bool.false_and] at hr
          subst hr
          have d4 := decide_eq_false h4
          go_enter Tryz.func36, Tryz.ntmps36
          go_wp2_with fail
          go_ret
          exact ⟨rfl, HB.out⟩
      · rw [decide_eq_false h3, Bool.false_and, Bool.false_and, Bool.false_and] at hr
        subst hr
        have d3 := decide_eq_false h3
        go_enter Tryz.func36, Tryz.ntmps36
        go_wp2_with fail
        go_ret
        exact ⟨rfl, HB.out⟩
    · rw [decide_eq_false h2, Bool.false_and, Bool.false_and, Bool.false_and, Bool.false_and] at hr
      subst hr
      have d2 := decide_eq_false h2
      go_enter Tryz.func36, Tryz.ntmps36
      go_wp2_with fail
      go_ret
      exact ⟨rfl, HB.out⟩
  · rw [decide_eq_false h1, Bool.false_and, Bool.false_and, Bool.false_and, Bool.false_and, Bool.false_and] at hr
    subst hr
    have d1 := decide_eq_false h1
    go_enter Tryz.func36, Tryz.ntmps36
    go_wp2_with fail
    go_ret
    exact ⟨rfl, HB.out⟩
theorem nxE_nw {p : List Ky} {k : Ky} {z : Int} (h : nwE p k.id k.sec = z) (hz : z ≠ 0) : nxE p k = z := by unfold nxE; rw [h, if_pos hz]
theorem nwE_5 {p : List Ky} {id sec : ByteArray} (h : wordB id = false) : nwE p id sec = 5 := by unfold nwE; rw [h, if_pos rfl]
theorem nwE_4 {p : List Ky} {id sec : ByteArray} (h1 : wordB id = true) (h : cleanB sec = false) : nwE p id sec = 4 := by unfold nwE; rw [h1, h, if_neg (by decide), if_pos rfl]
theorem nwE_7 {p : List Ky} {id sec : ByteArray} (h1 : wordB id = true) (h2 : cleanB sec = true) (h : hasI p id = true) : nwE p id sec = 7 := by unfold nwE; rw [h1, h2, h, if_neg (by decide), if_neg (by decide), if_pos rfl]
theorem errK_word {l : List Ky} {i : Nat} (h : wordB (kA l i).id = false) : errK l i = 5 :=
  nxE_nw (nwE_5 h) (by decide)
theorem errK_cln {l : List Ky} {i : Nat} (h1 : wordB (kA l i).id = true) (h : cleanB (kA l i).sec = false) : errK l i = 4 :=
  nxE_nw (nwE_4 h1 h) (by decide)
theorem errK_two {l : List Ky} {i j : Nat} (hi : i < l.length) (hj : j < i) (h1 : wordB (kA l i).id = true) (h : cleanB (kA l i).sec = true) (e : (kA l j).id = (kA l i).id) : errK l i = 7 := by
  have hh : hasI (l.take i) (kA l i).id = true := by
    refine hasI_iff.2 ⟨j, by rw [List.length_take]; omega, ?_⟩
    rw [← e, k_get (show j < (l.take i).length by rw [List.length_take]; omega), List.getElem_take, k_get (show j < l.length by omega)]
  exact nxE_nw (nwE_7 h1 h hh) (by decide)
theorem errK_win {l : List Ky} {i : Nat} (hi : i < l.length) (h1 : wordB (kA l i).id = true) (h : cleanB (kA l i).sec = true) (hn : ∀ j, j < i → (kA l j).id ≠ (kA l i).id) : errK l i = if winB (kA l i) = true then 0 else 2 := by
  have hh : hasI (l.take i) (kA l i).id = false := by
    cases q : hasI (l.take i) (kA l i).id
    · rfl
    · obtain ⟨j, hj, e⟩ := hasI_iff.1 q
      rw [List.length_take] at hj
      rw [k_get (show j < (l.take i).length by rw [List.length_take]; omega), List.getElem_take] at e
      exact absurd (by rw [k_get (show j < l.length by omega)]; exact e) (hn j (by omega))
  unfold errK nxE; rw [nwE_ok h1 h hh, if_neg (by decide)]
set_option maxHeartbeats 8000000 in
theorem rcheck_k (ao : Option Addr) (n cap : Nat) (l : List Ky) (z : Int) (w : World) (h : KsAt w ao n cap l) (hs : ∀ k ∈ l, SmK k) (hz : chkK l = z) :
    Calls Tryz.prog 13 #[.slice ao n cap] w fun e w' => e = .returned (.int .i64 z) ∧ Below w.heap.size w w' := by
  have H := Lib.hid h
  obtain ⟨h1, h2, h3, _, _⟩ := h
  subst h1
  unfold maxLen at h3
  have HS := Lib.hid hs
  clear hs
  unfold chkK at hz
  by_cases h16 : 16 < l.length
  · rw [if_pos h16] at hz
    subst hz
    have d1 : (16 : Int) < (l.length : Int) := by omega
    go_enter Tryz.func13, Tryz.ntmps13
    go_wp2_with fail
    go_ret
    exact ⟨rfl, Below.refl _ _⟩
  · rw [if_neg h16] at hz
    have d1 : ¬ (16 : Int) < (l.length : Int) := by omega
    have HZ := Lib.hid hz
    clear hz
    go_enter Tryz.func13, Tryz.ntmps13
    go_wp2_with fail
    go_loopw [3] (fun iv wr => ∃ k : Nat, k ≤ l.length ∧ iv = .int .i64 k ∧ Hid (firE (errK l) k = 0) ∧ Hid (Below w.heap.size w wr)) (fun iv _ => l.length - (intOf iv).toNat)
    case atStart => exact ⟨0, Nat.zero_le _, rfl, Lib.hid rfl, Lib.hid (Below.refl _ _)⟩
    case round =>
      obtain ⟨k, hk, rfl, HE, HB⟩ := hrel
      by_cases hlt : k < l.length
      · obtain ⟨b, off, rfl, hsl⟩ := H.out.2.2.2.1 (by omega)
        have hsm := HS.out _ (k_mem hlt)
        have hw5 := errK_word (l := l) (i := k)
        have hw4 := errK_cln (l := l) (i := k)
        have hw7 := fun j (hj : j < k) => errK_two (l := l) (i := k) (j := j) hlt hj
        have hw2 := errK_win (l := l) (i := k) hlt
        have HSl := Lib.hid hsl
        have HC : Hid (∀ V, Below w.heap.size w V → AtK V b (off + k * 6) (kA l k)) := Lib.hid fun V hV => (HSl.out.below hV HSl.out.1).at_ hlt
        obtain ⟨g, hg⟩ : ∃ g, kA l k = g := ⟨_, rfl⟩
        rw [hg] at hsm hw5 hw4 hw7 hw2 HC
        have H5 := Lib.hid hw5
        have H4 := Lib.hid hw4
        have H7 := Lib.hid hw7
        have H2 := Lib.hid hw2
        obtain ⟨s1, s2⟩ := hsm
        obtain ⟨c0, c1, c2, c3, c4, c5⟩ := HC.out _ HB.out
        clear hsl hg hw5 hw4 hw7 hw2
        cases q1 : wordB g.id
        · have HE1 := Lib.hid (firE_hit HE.out (H5.out q1) (by decide) hlt)
          go_wp2_with fail
          refine (rword_k g.id false _ s1 q1).mono ?_
          rintro e w' ⟨rfl, rfl⟩
          go_wp2_with fail
          go_ret
          exact ⟨by rw [← HZ.out, HE1.out]; rfl, HB.out⟩
        · cases q2 : cleanB g.sec
          · have HE1 := Lib.hid (firE_hit HE.out (H4.out q1 q2) (by decide) hlt)
            go_wp2_with fail
            refine (rword_k g.id true _ s1 q1).mono ?_
            rintro e w' ⟨rfl, rfl⟩
            go_wp2_with fail
            refine (rclean_k g.sec false _ s2 q2).mono ?_
            rintro e w' ⟨rfl, rfl⟩
            go_wp2_with fail
            go_ret
            exact ⟨by rw [← HZ.out, HE1.out]; rfl, HB.out⟩
          · have HW1 := Lib.hid q1
            have HW2 := Lib.hid q2
            go_wp2_with fail
            refine (rword_k g.id true _ s1 q1).mono ?_
            rintro e w' ⟨rfl, rfl⟩
            go_wp2_with fail
            refine (rclean_k g.sec true _ s2 q2).mono ?_
            rintro e w' ⟨rfl, rfl⟩
            clear q1 q2 c0 c1 c2 c3 c4 c5
            go_wp2_with fail
            go_loopw [4] (fun jv wy => ∃ j : Nat, j ≤ k ∧ jv = .int .i64 j ∧ Hid (∀ i, i < j → (kA l i).id ≠ g.id) ∧ Hid (Below w.heap.size w wy)) (fun jv _ => k - (intOf jv).toNat)
            case atStart => exact ⟨0, Nat.zero_le _, rfl, Lib.hid fun i hi => absurd hi (Nat.not_lt_zero _), HB⟩
            case round =>
              clear HB
              obtain ⟨j, hj, rfl, HN, HB⟩ := hrel
              by_cases hjt : j < k
              · have hjl : j < l.length := by omega
                have jI : (j : Int) < (k : Int) := by omega
                have HCj : Hid (∀ V, Below w.heap.size w V → AtK V b (off + j * 6) (kA l j)) := Lib.hid fun V hV => (HSl.out.below hV HSl.out.1).at_ hjl
                obtain ⟨y, hy⟩ : ∃ y, (kA l j).id = y := ⟨_, rfl⟩
                have HB := Lib.hid (HB.out.trans ((Below.refl _ _).drew.mono HB.out.size))
                have HSt : Hid (∀ V, Below w.heap.size w V → V.cell? ⟨b, off + j * 6, none⟩ = some (.string y) ∧ V.cell? ⟨b, off + k * 6, none⟩ = some (.string g.id) ∧ Hid (Below w.heap.size w V)) := Lib.hid fun V hV => ⟨by rw [← hy]; exact (HCj.out V hV).c0, (HC.out V hV).c0, Lib.hid hV⟩
                have S0 := HSt.out _ HB.out
                by_cases e : y = g.id
                · have d2 : (y.toList == g.id.toList) = true := by rw [str_eq']; exact decide_eq_true e
                  have HE1 := Lib.hid (firE_hit HE.out (H7.out j hjt HW1.out HW2.out (hy.trans e)) (by decide) hlt)
                  clear e hy
                  go_wp2_with fail
                  refine wp_region_held_drew (S := fun V => V.cell? ⟨b, off + j * 6, none⟩ = some (.string y) ∧ V.cell? ⟨b, off + k * 6, none⟩ = some (.string g.id) ∧ Hid (Below w.heap.size w V)) (by kernel_rfl) (S0) (fun hS => ?_)
                  refine wpAnyH_take (i := 0) (oi := { dst := some 33, op := _, type := _, pos := _, after := _, guard := _ }) (v := ?_) rfl (by kernel_rfl) (by kernel_rfl) (by kernel_rfl) (fun _ _ _ h => h) (Or.inl ⟨by rfl, ?_⟩) (by assumption) ?_
                  rotate_left
                  · intro w hSw
                    try dsimp only at hSw
                    go_simp
                    try with_reducible rfl
                  try simp only [Act.put, List.setIfInBounds_toArray, List.set_cons_zero, List.set_cons_succ]
                  refine wpAnyH_take (i := 1) (oi := { dst := some 34, op := _, type := _, pos := _, after := _, guard := _ }) (v := ?_) rfl (by kernel_rfl) (by kernel_rfl) (by kernel_rfl) (fun _ _ _ h => h) (Or.inl ⟨by rfl, ?_⟩) (by assumption) ?_
                  rotate_left
                  · intro w hSw
                    try dsimp only at hSw
                    go_simp
                    try with_reducible rfl
                  try simp only [Act.put, List.setIfInBounds_toArray, List.set_cons_zero, List.set_cons_succ]
                  refine wpAnyH_take (i := 2) (oi := { dst := some 35, op := _, type := _, pos := _, after := _, guard := _ }) (v := ?_) rfl (by kernel_rfl) (by kernel_rfl) (by kernel_rfl) (fun _ _ _ h => h) (Or.inl ⟨by rfl, ?_⟩) (by assumption) ?_
                  rotate_left
                  · intro w hSw
                    try dsimp only at hSw
                    go_simp
                    try with_reducible rfl
                  try simp only [Act.put, List.setIfInBounds_toArray, List.set_cons_zero, List.set_cons_succ]
                  refine wpAnyH_take (i := 3) (oi := { dst := some 36, op := _, type := _, pos := _, after := _, guard := _ }) (v := ?_) rfl (by kernel_rfl) (by kernel_rfl) (by kernel_rfl) (fun _ _ _ h => h) (Or.inl ⟨by rfl, ?_⟩) (by assumption) ?_
                  rotate_left
                  · intro w hSw
                    try dsimp only at hSw
                    go_simp
                    try with_reducible rfl
                  try simp only [Act.put, List.setIfInBounds_toArray, List.set_cons_zero, List.set_cons_succ]
                  refine wpAnyH_take (i := 4) (oi := { dst := some 37, op := _, type := _, pos := _, after := _, guard := _ }) (v := ?_) rfl (by kernel_rfl) (by kernel_rfl) (by kernel_rfl) (fun _ _ _ h => h) (Or.inl ⟨by rfl, ?_⟩) (by assumption) ?_
                  rotate_left
                  · intro w hSw
                    try dsimp only at hSw
                    go_simp
                    try with_reducible rfl
                  try simp only [Act.put, List.setIfInBounds_toArray, List.set_cons_zero, List.set_cons_succ]
                  refine wpAnyH_take (i := 5) (oi := { dst := some 38, op := _, type := _, pos := _, after := _, guard := _ }) (v := ?_) rfl (by kernel_rfl) (by kernel_rfl) (by kernel_rfl) (fun _ _ _ h => h) (Or.inl ⟨by rfl, ?_⟩) (by assumption) ?_
                  rotate_left
                  · intro w hSw
                    try dsimp only at hSw
                    go_simp
                    try with_reducible rfl
                  try simp only [Act.put, List.setIfInBounds_toArray, List.set_cons_zero, List.set_cons_succ]
                  refine wpAnyH_take (i := 6) (oi := { dst := some 39, op := _, type := _, pos := _, after := _, guard := _ }) (v := ?_) rfl (by kernel_rfl) (by kernel_rfl) (by kernel_rfl) (fun _ _ _ h => h) (Or.inl ⟨by rfl, ?_⟩) (by assumption) ?_
                  rotate_left
                  · intro w hSw
                    try dsimp only at hSw
                    go_simp
                    try with_reducible rfl
                  try simp only [Act.put, List.setIfInBounds_toArray, List.set_cons_zero, List.set_cons_succ]
                  refine wpAnyH_take (i := 7) (oi := { dst := some 40, op := _, type := _, pos := _, after := _, guard := _ }) (v := ?_) rfl (by kernel_rfl) (by kernel_rfl) (by kernel_rfl) (fun _ _ _ h => h) (Or.inl ⟨by rfl, ?_⟩) (by assumption) ?_
                  rotate_left
                  · intro w hSw
                    try dsimp only at hSw
                    go_simp
                    try with_reducible rfl
                  try simp only [Act.put, List.setIfInBounds_toArray, List.set_cons_zero, List.set_cons_succ]
                  refine wpAnyH_take (i := 8) (oi := { dst := some 41, op := _, type := _, pos := _, after := _, guard := _ }) (v := ?_) rfl (by kernel_rfl) (by kernel_rfl) (by kernel_rfl) (fun _ _ _ h => h) (Or.inl ⟨by rfl, ?_⟩) (by assumption) ?_
                  rotate_left
                  · intro w hSw
                    try dsimp only at hSw
                    go_simp
                    try with_reducible rfl
                  try simp only [Act.put, List.setIfInBounds_toArray, List.set_cons_zero, List.set_cons_succ]
                  refine wpAnyH_take (i := 9) (oi := { dst := some 42, op := _, type := _, pos := _, after := _, guard := _ }) (v := ?_) rfl (by kernel_rfl) (by kernel_rfl) (by kernel_rfl) (fun _ _ _ h => h) (Or.inl ⟨by rfl, ?_⟩) (by assumption) ?_
                  rotate_left
                  · intro w hSw
                    try dsimp only at hSw
                    go_simp
                    try with_reducible rfl
                  try simp only [Act.put, List.setIfInBounds_toArray, List.set_cons_zero, List.set_cons_succ]
                  refine wpAnyH_take (i := 10) (oi := { dst := some 43, op := _, type := _, pos := _, after := _, guard := _ }) (v := ?_) rfl (by kernel_rfl) (by kernel_rfl) (by kernel_rfl) (fun _ _ _ h => h) (Or.inl ⟨by rfl, ?_⟩) (by assumption) ?_
                  rotate_left
                  · intro w hSw
                    try dsimp only at hSw
                    go_simp
                    try with_reducible rfl
                  try simp only [Act.put, List.setIfInBounds_toArray, List.set_cons_zero, List.set_cons_succ]
                  refine wpAnyH_done (by kernel_rfl) ?_ _
                  go_wp2_with fail
                  go_ret
                  exact ⟨by rw [← HZ.out, HE1.out]; rfl, HB.out⟩
                · have d2 : (y.toList == g.id.toList) = false := by rw [str_eq']; exact decide_eq_false e
                  have HN1 : Hid (∀ i, i < j + 1 → (kA l i).id ≠ g.id) := Lib.hid fun i hi => if q : i = j then by rw [q, hy]; exact e else HN.out i (by omega)
                  clear e hy
                  go_wp2_with fail
                  refine wp_region_held_drew (S := fun V => V.cell? ⟨b, off + j * 6, none⟩ = some (.string y) ∧ V.cell? ⟨b, off + k * 6, none⟩ = some (.string g.id) ∧ Hid (Below w.heap.size w V)) (by kernel_rfl) (S0) (fun hS => ?_)
                  refine wpAnyH_take (i := 0) (oi := { dst := some 33, op := _, type := _, pos := _, after := _, guard := _ }) (v := ?_) rfl (by kernel_rfl) (by kernel_rfl) (by kernel_rfl) (fun _ _ _ h => h) (Or.inl ⟨by rfl, ?_⟩) (by assumption) ?_
                  rotate_left
                  · intro w hSw
                    try dsimp only at hSw
                    go_simp
                    try with_reducible rfl
                  try simp only [Act.put, List.setIfInBounds_toArray, List.set_cons_zero, List.set_cons_succ]
                  refine wpAnyH_take (i := 1) (oi := { dst := some 34, op := _, type := _, pos := _, after := _, guard := _ }) (v := ?_) rfl (by kernel_rfl) (by kernel_rfl) (by kernel_rfl) (fun _ _ _ h => h) (Or.inl ⟨by rfl, ?_⟩) (by assumption) ?_
                  rotate_left
                  · intro w hSw
                    try dsimp only at hSw
                    go_simp
                    try with_reducible rfl
                  try simp only [Act.put, List.setIfInBounds_toArray, List.set_cons_zero, List.set_cons_succ]
                  refine wpAnyH_take (i := 2) (oi := { dst := some 35, op := _, type := _, pos := _, after := _, guard := _ }) (v := ?_) rfl (by kernel_rfl) (by kernel_rfl) (by kernel_rfl) (fun _ _ _ h => h) (Or.inl ⟨by rfl, ?_⟩) (by assumption) ?_
                  rotate_left
                  · intro w hSw
                    try dsimp only at hSw
                    go_simp
                    try with_reducible rfl
                  try simp only [Act.put, List.setIfInBounds_toArray, List.set_cons_zero, List.set_cons_succ]
                  refine wpAnyH_take (i := 3) (oi := { dst := some 36, op := _, type := _, pos := _, after := _, guard := _ }) (v := ?_) rfl (by kernel_rfl) (by kernel_rfl) (by kernel_rfl) (fun _ _ _ h => h) (Or.inl ⟨by rfl, ?_⟩) (by assumption) ?_
                  rotate_left
                  · intro w hSw
                    try dsimp only at hSw
                    go_simp
                    try with_reducible rfl
                  try simp only [Act.put, List.setIfInBounds_toArray, List.set_cons_zero, List.set_cons_succ]
                  refine wpAnyH_take (i := 4) (oi := { dst := some 37, op := _, type := _, pos := _, after := _, guard := _ }) (v := ?_) rfl (by kernel_rfl) (by kernel_rfl) (by kernel_rfl) (fun _ _ _ h => h) (Or.inl ⟨by rfl, ?_⟩) (by assumption) ?_
                  rotate_left
                  · intro w hSw
                    try dsimp only at hSw
                    go_simp
                    try with_reducible rfl
                  try simp only [Act.put, List.setIfInBounds_toArray, List.set_cons_zero, List.set_cons_succ]
                  refine wpAnyH_take (i := 5) (oi := { dst := some 38, op := _, type := _, pos := _, after := _, guard := _ }) (v := ?_) rfl (by kernel_rfl) (by kernel_rfl) (by kernel_rfl) (fun _ _ _ h => h) (Or.inl ⟨by rfl, ?_⟩) (by assumption) ?_
                  rotate_left
                  · intro w hSw
                    try dsimp only at hSw
                    go_simp
                    try with_reducible rfl
                  try simp only [Act.put, List.setIfInBounds_toArray, List.set_cons_zero, List.set_cons_succ]
                  refine wpAnyH_take (i := 6) (oi := { dst := some 39, op := _, type := _, pos := _, after := _, guard := _ }) (v := ?_) rfl (by kernel_rfl) (by kernel_rfl) (by kernel_rfl) (fun _ _ _ h => h) (Or.inl ⟨by rfl, ?_⟩) (by assumption) ?_
                  rotate_left
                  · intro w hSw
                    try dsimp only at hSw
                    go_simp
                    try with_reducible rfl
                  try simp only [Act.put, List.setIfInBounds_toArray, List.set_cons_zero, List.set_cons_succ]
                  refine wpAnyH_take (i := 7) (oi := { dst := some 40, op := _, type := _, pos := _, after := _, guard := _ }) (v := ?_) rfl (by kernel_rfl) (by kernel_rfl) (by kernel_rfl) (fun _ _ _ h => h) (Or.inl ⟨by rfl, ?_⟩) (by assumption) ?_
                  rotate_left
                  · intro w hSw
                    try dsimp only at hSw
                    go_simp
                    try with_reducible rfl
                  try simp only [Act.put, List.setIfInBounds_toArray, List.set_cons_zero, List.set_cons_succ]
                  refine wpAnyH_take (i := 8) (oi := { dst := some 41, op := _, type := _, pos := _, after := _, guard := _ }) (v := ?_) rfl (by kernel_rfl) (by kernel_rfl) (by kernel_rfl) (fun _ _ _ h => h) (Or.inl ⟨by rfl, ?_⟩) (by assumption) ?_
                  rotate_left
                  · intro w hSw
                    try dsimp only at hSw
                    go_simp
                    try with_reducible rfl
                  try simp only [Act.put, List.setIfInBounds_toArray, List.set_cons_zero, List.set_cons_succ]
                  refine wpAnyH_take (i := 9) (oi := { dst := some 42, op := _, type := _, pos := _, after := _, guard := _ }) (v := ?_) rfl (by kernel_rfl) (by kernel_rfl) (by kernel_rfl) (fun _ _ _ h => h) (Or.inl ⟨by rfl, ?_⟩) (by assumption) ?_
                  rotate_left
                  · intro w hSw
                    try dsimp only at hSw
                    go_simp
                    try with_reducible rfl
                  try simp only [Act.put, List.setIfInBounds_toArray, List.set_cons_zero, List.set_cons_succ]
                  refine wpAnyH_take (i := 10) (oi := { dst := some 43, op := _, type := _, pos := _, after := _, guard := _ }) (v := ?_) rfl (by kernel_rfl) (by kernel_rfl) (by kernel_rfl) (fun _ _ _ h => h) (Or.inl ⟨by rfl, ?_⟩) (by assumption) ?_
                  rotate_left
                  · intro w hSw
                    try dsimp only at hSw
                    go_simp
                    try with_reducible rfl
                  try simp only [Act.put, List.setIfInBounds_toArray, List.set_cons_zero, List.set_cons_succ]
                  refine wpAnyH_done (by kernel_rfl) ?_ _
                  go_wp2_with fail
                  go_roundw
                  case rel => exact ⟨j + 1, by omega, by go_num, HN1, HB⟩
                  case measure => simp [intOf]; omega
              · obtain rfl : j = k := by omega
                obtain ⟨c0, c1, c2, c3, c4, c5⟩ := HC.out _ HB.out
                have h2 := H2.out HW1.out HW2.out HN.out
                cases q3 : winB g
                · rw [q3, if_neg (by decide)] at h2
                  have HE1 := Lib.hid (firE_hit HE.out h2 (by decide) hlt)
                  have HQ := Lib.hid q3
                  clear h2 q3
                  go_wp2_with fail
                  refine (windows_k g false _ HQ.out).mono ?_
                  rintro e w2 ⟨rfl, hb⟩
                  have HB := Lib.hid (HB.out.trans (hb.mono HB.out.size))
                  clear hb c0 c1 c2 c3 c4 c5
                  go_wp2_with fail
                  go_ret
                  exact ⟨by rw [← HZ.out, HE1.out]; rfl, HB.out⟩
                · rw [q3, if_pos rfl] at h2
                  have HE1 := Lib.hid (firE_next HE.out h2)
                  have HQ := Lib.hid q3
                  clear h2 q3
                  go_wp2_with fail
                  refine (windows_k g true _ HQ.out).mono ?_
                  rintro e w2 ⟨rfl, hb⟩
                  have HB := Lib.hid (HB.out.trans (hb.mono HB.out.size))
                  clear hb c0 c1 c2 c3 c4 c5
                  go_wp2_with fail
                  go_roundw
                  case rel => exact ⟨j + 1, by omega, by go_num, HE1, HB⟩
                  case measure => simp [intOf]; omega
      · obtain rfl : k = l.length := by omega
        have HE1 := Lib.hid (show z = 0 by rw [← HZ.out]; exact HE.out)
        go_wp2_with fail
        go_ret
        exact ⟨by rw [HE1.out]; rfl, HB.out⟩
theorem inst_k (t x : Int) (w : World) (hx : limI t = x) :
    Calls Tryz.prog 22 #[.int .i64 t] w fun e w' => e = .returned (.int .i64 x) ∧ w = w' := by
  unfold limI at hx
  by_cases h0 : t < 0
  · obtain rfl : x = 0 := by omega
    go_enter Tryz.func22, Tryz.ntmps22
    go_wp2_with fail
    go_ret
    exact ⟨rfl, rfl⟩
  · by_cases h1 : 1099511627776 < t
    · obtain rfl : x = 1099511627776 := by omega
      go_enter Tryz.func22, Tryz.ntmps22
      go_wp2_with fail
      go_ret
      exact ⟨rfl, rfl⟩
    · obtain rfl : x = t := by omega
      go_enter Tryz.func22, Tryz.ntmps22
      go_wp2_with fail
      go_ret
      exact ⟨rfl, rfl⟩
end Go.Proofs.YtgepcbggkfjlgaaGreatDoor
end

section
/-
  Contracts of Great, Same, selected with the closures of Signing and Prune, Prune on both sides. Condition: strings of at most 1000000000 bytes, at most 1000 keys.
-/
set_option maxRecDepth 100000
set_option linter.unusedVariables false
set_option linter.unusedSimpArgs false
set_option linter.unnecessarySimpa false
namespace Go.Proofs.YtgepcbggkfjlgaaGreatDoor
open Go.RowKit Go.PlainAid

/-- at most so many keys, no long string -/
def greatB (l : List Ky) (m : Int) : Bool := decide (m < l.length) || l.any fun k => decide (300 < k.id.size) || decide (300 < k.sec.size)
theorem great_no {l : List Ky} {m : Int} (h : greatB l m = false) : (l.length : Int) ≤ m ∧ ∀ k ∈ l, k.id.size ≤ 300 ∧ k.sec.size ≤ 300 := by
  unfold greatB at h
  rw [Bool.or_eq_false_iff, decide_eq_false_iff_not, List.any_eq_false] at h
  refine ⟨by omega, fun k hk => ?_⟩
  have := h.2 k hk
  simp only [Bool.or_eq_true, decide_eq_true_eq, not_or] at this
  omega
set_option maxHeartbeats 4000000 in
theorem great_k (ao : Option Addr) (n cap : Nat) (l : List Ky) (m : Int) (r : Bool) (w : World) (h : KsAt w ao n cap l) (hr : greatB l m = r) :
    Calls Tryz.prog 10 #[.slice ao n cap, .int .i64 m] w fun e w' => e = .returned (.bool r) ∧ w = w' := by
  have H := Lib.hid h
  obtain ⟨h1, h2, h3, _, _⟩ := h
  subst h1
  unfold maxLen at h3
  by_cases h0 : m < (l.length : Int)
  · have HE := Lib.hid (show r = true by rw [← hr]; unfold greatB; rw [decide_eq_true h0]; rfl)
    clear hr
    go_enter Tryz.func10, Tryz.ntmps10
    go_wp2_with fail
    go_ret
    exact ⟨by rw [HE.out]; rfl, rfl⟩
  · have HR := Lib.hid hr
    clear hr
    go_enter Tryz.func10, Tryz.ntmps10
    go_wp2_with fail
    go_loopw [5] (fun iv wr => ∃ k : Nat, k ≤ l.length ∧ iv = .int .i64 k ∧ Hid (∀ j, j < k → (kA l j).id.size ≤ 300 ∧ (kA l j).sec.size ≤ 300) ∧ wr = w) (fun iv _ => l.length - (intOf iv).toNat)
    case atStart => exact ⟨0, Nat.zero_le _, rfl, Lib.hid fun j hj => absurd hj (Nat.not_lt_zero _), rfl⟩
    case round =>
      obtain ⟨k, hk, rfl, HN, rfl⟩ := hrel
      by_cases hlt : k < l.length
      · obtain ⟨b, off, rfl, hsl⟩ := H.out.2.2.2.1 (by omega)
        have hat := hsl.at_ hlt
        obtain ⟨g, hg⟩ : ∃ g, kA l k = g := ⟨_, rfl⟩
        have hgm : g ∈ l := by rw [← hg]; exact k_mem hlt
        rw [hg] at hat
        obtain ⟨c0, c1, c2, c3, c4, c5⟩ := hat
        have hbad : (300 < g.id.size ∨ 300 < g.sec.size) → r = true := fun q => by
          rw [← HR.out]
          unfold greatB
          rw [Bool.or_eq_true, List.any_eq_true]
          refine .inr ⟨g, hgm, ?_⟩
          rw [Bool.or_eq_true, decide_eq_true_eq, decide_eq_true_eq]; exact q
        clear hsl
        by_cases e1 : 300 < g.id.size
        · have d1 : (300 : Int) < (g.id.size : Int) := by omega
          have HE := Lib.hid (hbad (.inl e1))
          clear hg hbad e1
          go_wp2_with fail
          go_ret
          exact ⟨by rw [HE.out]; rfl, rfl⟩
        · have d1 : ¬ (300 : Int) < (g.id.size : Int) := by omega
          by_cases e2 : 300 < g.sec.size
          · have d2 : decide ((300 : Int) < (g.sec.size : Int)) = true := decide_eq_true (by omega)
            have HE := Lib.hid (hbad (.inr e2))
            clear hg hbad e1 e2
            go_wp2_with fail
            go_ret
            exact ⟨by rw [HE.out]; rfl, rfl⟩
          · have d2 : decide ((300 : Int) < (g.sec.size : Int)) = false := decide_eq_false (by omega)
            have HN1 : Hid (∀ j, j < k + 1 → (kA l j).id.size ≤ 300 ∧ (kA l j).sec.size ≤ 300) := Lib.hid fun j hj => if q : j = k then by rw [q, hg]; omega else HN.out j (by omega)
            clear hg hbad e1 e2
            go_wp2_with fail
            go_roundw
            case rel => exact ⟨k + 1, by omega, by go_num, HN1, (by first | trivial | rfl)⟩
            case measure => simp [intOf]; omega
      · obtain rfl : k = l.length := by omega
        have HE := Lib.hid (show r = false by
          rw [← HR.out]
          unfold greatB
          rw [Bool.or_eq_false_iff, decide_eq_false_iff_not, List.any_eq_false]
          refine ⟨by omega, fun x hx => ?_⟩
          obtain ⟨j, hj, rfl⟩ := List.mem_iff_getElem.1 hx
          have := HN.out j hj
          rw [k_get hj] at this
          simp only [Bool.or_eq_true, decide_eq_true_eq, not_or]
          omega)
        go_wp2_with fail
        go_ret
        exact ⟨by rw [HE.out]; rfl, rfl⟩
/-! ### selected -/
theorem ks_one (w : World) (g : Ky) : KsAt (w.alloc (kB g)) (some ⟨w.heap.size, 0, none⟩) 1 1 [g] := by
  refine ⟨rfl, Nat.le_refl _, by unfold maxLen; omega, fun _ => ⟨w.heap.size, 0, rfl, (kbc_new w _).big, fun j hj k hk => ?_⟩, fun e => by cases e⟩
  have hj0 : j = 0 := by simp at hj; omega
  subst hj0
  rw [Nat.zero_mul, Nat.zero_add]
  have h : (kcells g)[k]? = some ((kcells g)[k]'(by rw [kcells_len]; exact hk)) := List.getElem?_eq_getElem _
  show _ = (kcells g)[k]?
  rw [h]
  refine (kbc_new w (kB g)).cell ?_
  rw [← Array.getElem?_toList]
  exact h
theorem own_fresh {w : World} {base n cap m : Nat} {ao : Option Addr} {xs : List Value} {t : TypeId} {z : Nat} (h : w.ownsRow base t z (.slice ao n cap) m xs) : ∀ b off, ao = some ⟨b, off, none⟩ → base ≤ b := by
  rintro b off rfl
  obtain ⟨_, ⟨e, _⟩ | ⟨g, c, cur, e, h2, _⟩⟩ := h
  · cases e
  · cases e; exact h2
def intB (t : Int) : Obj := .cells #[.int .i64 t] 3
/-- what selected keeps: the box that the closure reads -/
structure SlI (w : World) (bp : Nat) (t : Int) (V : World) : Prop where
  low : Below w.heap.size w V
  box : KbC V bp (intB t)
theorem SlI.step {w V X : World} {bp : Nat} {t : Int} (h : SlI w bp t V) (hb : Below V.heap.size V X) : SlI w bp t X := ⟨h.low.trans (hb.mono h.low.size), h.box.step hb⟩
theorem fil_take {p : Ky → Bool} {l : List Ky} {k : Nat} {g : Ky} (h : k < l.length) (hg : kA l k = g) : (l.take (k + 1)).filter p = (l.take k).filter p ++ if p g = true then [g] else [] := by
  rw [take_k l k h, hg, List.filter_append]
  congr 1
  cases hp : p g
  · rw [if_neg (by decide), List.filter_cons_of_neg (by rw [hp]; decide)]; rfl
  · rw [if_pos rfl, List.filter_cons_of_pos hp]; rfl
theorem kcs_len2 (l : List Ky) (p : Ky → Bool) (k : Nat) (h : l.length ≤ 1000) : ((l.take k).filter p).length ≤ 1000 := by
  have h1 := List.length_filter_le p (l.take k)
  have h2 : (l.take k).length ≤ l.length := by rw [List.length_take]; omega
  omega
set_option maxHeartbeats 2000000 in
theorem sgc_k (bp : Nat) (t : Int) (k : Ky) (r : Bool) (w : World) (h : KbC w bp (intB t)) (hr : inW k.sf k.su t = r) :
    Calls Tryz.prog 38 #[kV k, .pointer (some ⟨bp, 0, none⟩)] w fun e w' => e = .returned (.bool r) ∧ Below w.heap.size w w' := by
  obtain ⟨i, s, sf, su, af, au⟩ := k
  dsimp only at hr
  have HB := Lib.hid (box_below w (kB ⟨i, s, sf, su, af, au⟩))
  have c1 : (w.alloc (kB ⟨i, s, sf, su, af, au⟩)).cell? ⟨bp, 0, none⟩ = some (.int .i64 t) := (h.step (box_below _ _)).cell rfl
  have c0 : w.cell? ⟨bp, 0, none⟩ = some (.int .i64 t) := h.cell rfl
  have hlt := h.big
  have HI := Lib.hid (fun w => show Calls Tryz.prog 18 #[.agg #[.int .i64 sf, .int .i64 su], .int .i64 t] w fun e w' => e = .returned (.bool r) ∧ Below w.heap.size w w' by rw [← hr]; exact (in_s sf su t w).mono fun e w' h => ⟨h.1, by first | exact h.2 | (rw [← h.2]; exact Below.refl _ _)⟩)
  unfold kV
  unfold kB kcells at *
  clear h hr
  go_enter Tryz.func38, Tryz.ntmps38
  go_wp2_with fail
  refine (HI.out _).mono ?_
  rintro e w1 ⟨rfl, hb⟩
  have HB := Lib.hid (HB.out.trans (hb.mono HB.out.size))
  clear hb
  go_wp2_with fail
  go_ret
  exact ⟨rfl, HB.out⟩
set_option maxHeartbeats 2000000 in
theorem prc_k (bp : Nat) (t : Int) (k : Ky) (r : Bool) (w : World) (h : KbC w bp (intB t)) (hr : decide (t < k.au) = r) :
    Calls Tryz.prog 47 #[kV k, .pointer (some ⟨bp, 0, none⟩)] w fun e w' => e = .returned (.bool r) ∧ Below w.heap.size w w' := by
  obtain ⟨i, s, sf, su, af, au⟩ := k
  dsimp only at hr
  have HB := Lib.hid (box_below w (kB ⟨i, s, sf, su, af, au⟩))
  have c1 : (w.alloc (kB ⟨i, s, sf, su, af, au⟩)).cell? ⟨bp, 0, none⟩ = some (.int .i64 t) := (h.step (box_below _ _)).cell rfl
  have c0 : w.cell? ⟨bp, 0, none⟩ = some (.int .i64 t) := h.cell rfl
  have hlt := h.big
  unfold kV
  unfold kB kcells at *
  clear h
  go_enter Tryz.func47, Tryz.ntmps47
  go_wp2_with fail
  go_ret
  exact ⟨by rw [← hr]; rfl, HB.out⟩
set_option maxHeartbeats 8000000 in
theorem selS_k (ao : Option Addr) (n cap : Nat) (l L : List Ky) (bp : Nat) (t : Int) (w : World) (h : KsAt w ao n cap l) (hb : KbC w bp (intB t)) (hn : n ≤ 1000) (hL : l.filter (fun k => inW k.sf k.su t) = L) :
    Calls Tryz.prog 37 #[.slice ao n cap, .func (.func 38) #[] #[.pointer (some ⟨bp, 0, none⟩)]] w fun e w' => ∃ bo dap, e = .returned (.slice bo L.length dap) ∧ KsAt w' bo L.length dap L ∧ Below w.heap.size w w' ∧ ∀ b off, bo = some ⟨b, off, none⟩ → w.heap.size ≤ b := by
  have H := Lib.hid h
  obtain ⟨h1, h2, h3, _, _⟩ := h
  subst h1
  unfold maxLen at h3
  have HF := Lib.hid (show SlI w bp t w from ⟨Below.refl _ _, hb⟩)
  have HBp := Lib.hid hb.big
  have HL := Lib.hid hL
  clear hb hL
  go_enter Tryz.func37, Tryz.ntmps37
  go_wp2_with fail
  go_loopw [5, 10] (fun v iv wr => ∃ (k : Nat) (C : List Ky), k ≤ l.length ∧ iv = .int .i64 k ∧ Hid ((l.take k).filter (fun k => inW k.sf k.su t) = C) ∧ Hid (wr.ownsRow w.heap.size 31 6 v C.length (kcs C)) ∧ Hid (SlI w bp t wr)) (fun _ iv _ => l.length - (intOf iv).toNat)
  case atStart => exact ⟨0, [], Nat.zero_le _, rfl, Lib.hid rfl, Lib.hid (World.ownsRow_nil _ _ _ _), HF⟩
  case round =>
    clear HF
    rename_i v
    obtain ⟨k, C, hk, rfl, HC, HW, HF⟩ := hrel
    by_cases hlt : k < l.length
    · obtain ⟨b, off, rfl, hsl⟩ := H.out.2.2.2.1 (by omega)
      have hat := (hsl.below HF.out.low hsl.1).at_ hlt
      obtain ⟨g, hg⟩ : ∃ g, kA l k = g := ⟨_, rfl⟩
      rw [hg] at hat
      have hft := fil_take (p := (fun k => inW k.sf k.su t)) hlt hg
      rw [HC.out] at hft
      have hcl : C.length ≤ 1000 := by rw [← HC.out]; exact kcs_len2 l _ k hn
      obtain ⟨c0, c1, c2, c3, c4, c5⟩ := hat
      have HK := Lib.hid (kbc_new wr (kB g))
      have HF2 := Lib.hid (HF.out.step (box_below wr (kB g)))
      have HW2 := Lib.hid (own_below HW.out (box_below wr (kB g)))
      unfold kB kcells at HK HF2 HW2
      clear hsl hg
      cases q : inW g.sf g.su t
      · have HC1 := Lib.hid (show (l.take (k + 1)).filter (fun k => inW k.sf k.su t) = C by rw [hft]; rw [if_neg (by rw [q]; decide), List.append_nil])
        have HQ := Lib.hid q
        clear q hft
        go_wp2_with fail
        refine (sgc_k bp t g false _ HF2.out.box HQ.out).mono ?_
        rintro e w1 ⟨rfl, hb⟩
        have HF3 := Lib.hid (HF2.out.step hb)
        have HW3 := Lib.hid (own_below HW2.out hb)
        clear hb c0 c1 c2 c3 c4 c5
        go_wp2_with fail
        go_roundw
        case rel => exact ⟨k + 1, C, by omega, by go_num, HC1, HW3, HF3⟩
        case measure => simp [intOf]; omega
      · have HC1 := Lib.hid (show (l.take (k + 1)).filter (fun k => inW k.sf k.su t) = C ++ [g] by rw [hft]; rw [if_pos q])
        have HQ := Lib.hid q
        clear q hft
        go_wp2_with fail
        refine (sgc_k bp t g true _ HF2.out.box HQ.out).mono ?_
        rintro e w1 ⟨rfl, hb⟩
        have HF3 := Lib.hid (HF2.out.step hb)
        have HW3 := Lib.hid (own_below HW2.out hb)
        have HK3 := Lib.hid (HK.out.step hb)
        clear hb c0 c1 c2 c3 c4 c5
        have c0 := HK3.out.cell (i := 0) rfl
        have c1 := HK3.out.cell (i := 1) rfl
        have c2 := HK3.out.cell (i := 2) rfl
        have c3 := HK3.out.cell (i := 3) rfl
        have c4 := HK3.out.cell (i := 4) rfl
        have c5 := HK3.out.cell (i := 5) rfl
        have HO4 := Lib.hid (own_below HW3.out (box_below w1 (kB g)))
        have HK4 := Lib.hid (ks_one w1 g)
        have HF4 := Lib.hid (HF3.out.step (box_below w1 (kB g)))
        unfold kB kcells at HO4 HK4 HF4
        go_wp2_with (at_builtin; refine app_ks _ HO4.out (.tmp 17) (.tmp 19) (some ⟨w1.heap.size, 0, none⟩) 1 1 [g] ?_ ?_ ?_ ?_ ?_ ?_ ?_ ?_; exact rfl; exact rfl; exact rfl; exact rfl; exact HK4.out; omega; exact HF4.out.low.size; intro v5 w5 hown5 hb5)
        rw [← kcs_app] at hown5
        have HW5 := Lib.hid (show w5.ownsRow w.heap.size 31 6 v5 (C ++ [g]).length (kcs (C ++ [g])) by rw [List.length_append]; exact hown5)
        have HF5 := Lib.hid (show SlI w bp t w5 from ⟨HF4.out.low.trans hb5, HF4.out.box.keep hb5 HBp.out⟩)
        clear hown5 hb5 c0 c1 c2 c3 c4 c5
        go_wp2_with fail
        go_roundw
        case rel => exact ⟨k + 1, C ++ [g], by omega, by go_num, HC1, HW5, HF5⟩
        case measure => simp [intOf]; omega
    · obtain rfl : k = l.length := by omega
      have HE := Lib.hid (show C = L by rw [← HL.out, ← HC.out, List.take_length])
      obtain ⟨bo, dap, e1, hat⟩ := ks_of_owns HW.out
      have HA := Lib.hid hat
      subst e1
      have HN := Lib.hid (own_fresh HW.out)
      clear hat
      go_wp2_with fail
      go_ret
      refine ⟨bo, dap, ?_, ?_, HF.out.low, HN.out⟩
      · rw [HE.out]; rfl
      · have := HA.out; rw [HE.out] at this; exact this
set_option maxHeartbeats 8000000 in
theorem selP_k (ao : Option Addr) (n cap : Nat) (l L : List Ky) (bp : Nat) (t : Int) (w : World) (h : KsAt w ao n cap l) (hb : KbC w bp (intB t)) (hn : n ≤ 1000) (hL : l.filter (fun k => decide (t < k.au)) = L) :
    Calls Tryz.prog 37 #[.slice ao n cap, .func (.func 47) #[] #[.pointer (some ⟨bp, 0, none⟩)]] w fun e w' => ∃ bo dap, e = .returned (.slice bo L.length dap) ∧ KsAt w' bo L.length dap L ∧ Below w.heap.size w w' ∧ ∀ b off, bo = some ⟨b, off, none⟩ → w.heap.size ≤ b := by
  have H := Lib.hid h
  obtain ⟨h1, h2, h3, _, _⟩ := h
  subst h1
  unfold maxLen at h3
  have HF := Lib.hid (show SlI w bp t w from ⟨Below.refl _ _, hb⟩)
  have HBp := Lib.hid hb.big
  have HL := Lib.hid hL
  clear hb hL
  go_enter Tryz.func37, Tryz.ntmps37
  go_wp2_with fail
  go_loopw [5, 10] (fun v iv wr => ∃ (k : Nat) (C : List Ky), k ≤ l.length ∧ iv = .int .i64 k ∧ Hid ((l.take k).filter (fun k => decide (t < k.au)) = C) ∧ Hid (wr.ownsRow w.heap.size 31 6 v C.length (kcs C)) ∧ Hid (SlI w bp t wr)) (fun _ iv _ => l.length - (intOf iv).toNat)
  case atStart => exact ⟨0, [], Nat.zero_le _, rfl, Lib.hid rfl, Lib.hid (World.ownsRow_nil _ _ _ _), HF⟩
  case round =>
    clear HF
    rename_i v
    obtain ⟨k, C, hk, rfl, HC, HW, HF⟩ := hrel
    by_cases hlt : k < l.length
    · obtain ⟨b, off, rfl, hsl⟩ := H.out.2.2.2.1 (by omega)
      have hat := (hsl.below HF.out.low hsl.1).at_ hlt
      obtain ⟨g, hg⟩ : ∃ g, kA l k = g := ⟨_, rfl⟩
      rw [hg] at hat
      have hft := fil_take (p := (fun k => decide (t < k.au))) hlt hg
      rw [HC.out] at hft
      have hcl : C.length ≤ 1000 := by rw [← HC.out]; exact kcs_len2 l _ k hn
      obtain ⟨c0, c1, c2, c3, c4, c5⟩ := hat
      have HK := Lib.hid (kbc_new wr (kB g))
      have HF2 := Lib.hid (HF.out.step (box_below wr (kB g)))
      have HW2 := Lib.hid (own_below HW.out (box_below wr (kB g)))
      unfold kB kcells at HK HF2 HW2
      clear hsl hg
      cases q : decide (t < g.au)
      · have HC1 := Lib.hid (show (l.take (k + 1)).filter (fun k => decide (t < k.au)) = C by rw [hft]; rw [if_neg (by rw [q]; decide), List.append_nil])
        have HQ := Lib.hid q
        clear q hft
        go_wp2_with fail
        refine (prc_k bp t g false _ HF2.out.box HQ.out).mono ?_
        rintro e w1 ⟨rfl, hb⟩
        have HF3 := Lib.hid (HF2.out.step hb)
        have HW3 := Lib.hid (own_below HW2.out hb)
        clear hb c0 c1 c2 c3 c4 c5
        go_wp2_with fail
        go_roundw
        case rel => exact ⟨k + 1, C, by omega, by go_num, HC1, HW3, HF3⟩
        case measure => simp [intOf]; omega
      · have HC1 := Lib.hid (show (l.take (k + 1)).filter (fun k => decide (t < k.au)) = C ++ [g] by rw [hft]; rw [if_pos q])
        have HQ := Lib.hid q
        clear q hft
        go_wp2_with fail
        refine (prc_k bp t g true _ HF2.out.box HQ.out).mono ?_
        rintro e w1 ⟨rfl, hb⟩
        have HF3 := Lib.hid (HF2.out.step hb)
        have HW3 := Lib.hid (own_below HW2.out hb)
        have HK3 := Lib.hid (HK.out.step hb)
        clear hb c0 c1 c2 c3 c4 c5
        have c0 := HK3.out.cell (i := 0) rfl
        have c1 := HK3.out.cell (i := 1) rfl
        have c2 := HK3.out.cell (i := 2) rfl
        have c3 := HK3.out.cell (i := 3) rfl
        have c4 := HK3.out.cell (i := 4) rfl
        have c5 := HK3.out.cell (i := 5) rfl
        have HO4 := Lib.hid (own_below HW3.out (box_below w1 (kB g)))
        have HK4 := Lib.hid (ks_one w1 g)
        have HF4 := Lib.hid (HF3.out.step (box_below w1 (kB g)))
        unfold kB kcells at HO4 HK4 HF4
        go_wp2_with (at_builtin; refine app_ks _ HO4.out (.tmp 17) (.tmp 19) (some ⟨w1.heap.size, 0, none⟩) 1 1 [g] ?_ ?_ ?_ ?_ ?_ ?_ ?_ ?_; exact rfl; exact rfl; exact rfl; exact rfl; exact HK4.out; omega; exact HF4.out.low.size; intro v5 w5 hown5 hb5)
        rw [← kcs_app] at hown5
        have HW5 := Lib.hid (show w5.ownsRow w.heap.size 31 6 v5 (C ++ [g]).length (kcs (C ++ [g])) by rw [List.length_append]; exact hown5)
        have HF5 := Lib.hid (show SlI w bp t w5 from ⟨HF4.out.low.trans hb5, HF4.out.box.keep hb5 HBp.out⟩)
        clear hown5 hb5 c0 c1 c2 c3 c4 c5
        go_wp2_with fail
        go_roundw
        case rel => exact ⟨k + 1, C ++ [g], by omega, by go_num, HC1, HW5, HF5⟩
        case measure => simp [intOf]; omega
    · obtain rfl : k = l.length := by omega
      have HE := Lib.hid (show C = L by rw [← HL.out, ← HC.out, List.take_length])
      obtain ⟨bo, dap, e1, hat⟩ := ks_of_owns HW.out
      have HA := Lib.hid hat
      subst e1
      have HN := Lib.hid (own_fresh HW.out)
      clear hat
      go_wp2_with fail
      go_ret
      refine ⟨bo, dap, ?_, ?_, HF.out.low, HN.out⟩
      · rw [HE.out]; rfl
      · have := HA.out; rw [HE.out] at this; exact this
end Go.Proofs.YtgepcbggkfjlgaaGreatDoor
end
