/-
  Contract of the specification's Remove. Condition: as Sorted's, with room for more values.
-/
import Derived.Test.YtahpocpagidahaaAttR6
set_option linter.unusedVariables false
set_option linter.unusedSimpArgs false
set_option linter.unnecessarySimpa false
namespace Go.Proofs.Ytahpocpagidahaa
open Go.RowKit Go.PlainAid

def errR (vs old : List ByteArray) (j : Nat) : Int := if memB old (partAt vs j) = false ∨ memB (vs.take j) (partAt vs j) = true then 6 else 0
def remE (vs old : List ByteArray) : Int := firstE (errR vs old) vs.length
/-- what is left of the values -/
def leftV (old vs : List ByteArray) : List ByteArray := old.filter fun v => decide (0 < vs.length) && !memB vs v
def remR (l : List At) (name : ByteArray) (vs : List ByteArray) : List At × Int :=
  if nameB name = false then ([], 5) else if (vals l (lowS name)).length = 0 then ([], 6) else if remE vs (vals l (lowS name)) ≠ 0 then ([], 6) else (withL l name (leftV (vals l (lowS name)) vs), 0)
theorem left_snoc {old vs : List ByteArray} {q : Nat} (h : q < old.length) : leftV (old.take (q + 1)) vs = leftV (old.take q) vs ++ (if (decide (0 < vs.length) && !memB vs (partAt old q)) = true then [partAt old q] else []) := by
  unfold leftV
  rw [take_snoc old q h, List.filter_append]
  congr 1
  by_cases hp : (decide (0 < vs.length) && !memB vs (partAt old q)) = true
  · simp [List.filter_cons, hp]
  · simp [List.filter_cons, hp]
theorem left_len (old vs : List ByteArray) : (leftV old vs).length ≤ old.length := List.length_filter_le _ _
theorem left_small {old vs : List ByteArray} (h : SmallS old) : SmallS (leftV old vs) := fun v hv => h v (List.mem_filter.1 hv).1

set_option maxRecDepth 100000 in
set_option maxHeartbeats 8000000 in
theorem rrem_s (ao vo : Option Addr) (n cap vn vc : Nat) (l : List At) (name : ByteArray) (vs : List ByteArray) (w : World) (h : AttrsAt w ao n cap l) (hv : StrsAt w vo vn vc vs) (hF : Edit l vs) (hns : name.size ≤ 1000000) :
    Calls Try.prog 32 #[.slice ao n cap, .string name, .slice vo vn vc] w fun e w' => ∃ v, e = .returned (.tuple #[v, .int .i64 (remR l name vs).2]) ∧ AttsR w' v (remR l name vs).1 ∧ Below w.heap.size w w' := by
  have hvl : vs.length = vn := hv.1
  have hvc : vc ≤ 9223372036854775807 := hv.2.2.1
  have hvcn : vn ≤ vc := hv.2.1
  have HA := Lib.hid h
  have HV := Lib.hid hv
  have HG := Lib.hid (rget_s ao n cap l name w h hF.few hns)
  have HF := Lib.hid hF
  clear h hv hF
  cases hnm : nameB name with
  | false =>
    have HL := Lib.hid (show remR l name vs = ([], 5) from if_pos hnm)
    go_enter Try.func32, Try.ntmps32
    go_wp2_with (go_at_call 39; refine (rName_s name _ (by omega)).mono ?_; rintro e w' ⟨rfl, rfl⟩; rw [hnm])
    go_ret2
    exact ⟨_, by rw [HL.out]; rfl, by rw [HL.out]; exact atts_nil _, Below.refl _ _⟩
  | true =>
    obtain ⟨old, hold⟩ : ∃ x, vals l (lowS name) = x := ⟨_, rfl⟩
    have hol : old.length ≤ 40000 := by rw [← hold]; exact Nat.le_trans (vals_len _ _) HF.out.tot
    have HOS := Lib.hid (show SmallS old by rw [← hold]; exact vals_small HF.out.small _)
    have HL0 := Lib.hid (show remR l name vs = if old.length = 0 then ([], 6) else if remE vs old ≠ 0 then ([], 6) else (withL l name (leftV old vs), 0) by unfold remR; rw [if_neg (by rw [hnm]; simp), hold])
    rw [hold] at HG
    clear hold
    have hvn : vn ≤ 10000 := by rw [← hvl]; exact HF.out.vlen
    go_enter Try.func32, Try.ntmps32
    go_wp2_with (go_at_call 39; refine (rName_s name _ (by omega)).mono ?_; rintro e w' ⟨rfl, rfl⟩; rw [hnm])
    refine HG.out.mono ?_
    rintro e w1 ⟨v, rfl, ⟨xo, xn, xc, rfl, hx⟩, hb⟩
    have HX := Lib.hid hx
    have HB := Lib.hid hb
    have hxl : old.length = xn := hx.1
    have hxc : xn ≤ xc := hx.2.1
    have hxm : xc ≤ 9223372036854775807 := hx.2.2.1
    have HV1 := Lib.hid (HV.out.below hb)
    have HX4 := Lib.hid hx.2.2.2
    have HV4 := Lib.hid HV1.out.2.2.2
    clear hx hb HG
    by_cases hz : xn = 0
    · have HL := Lib.hid (show remR l name vs = ([], 6) by rw [HL0.out, if_pos (by omega)])
      have q0 : ((xn : Int) == 0) = true := by simpa using hz
      go_wp2_with fail
      go_ret2
      exact ⟨_, by rw [HL.out]; rfl, by rw [HL.out]; exact atts_nil _, HB.out⟩
    · have q0 : ((xn : Int) == 0) = false := by simpa using hz
      go_wp2_with fail
      go_loopw [9] (fun i wr => ∃ j : Nat, j ≤ vn ∧ i = .int .i64 j ∧ Hid (∀ q, q < j → errR vs old q = 0) ∧ Hid (Below w1.heap.size w1 wr)) (fun i _ => vn - (intOf i).toNat)
      case atStart => exact ⟨0, Nat.zero_le _, rfl, Lib.hid (fun q hq => absurd hq (Nat.not_lt_zero _)), Lib.hid (Below.refl _ _)⟩
      case round =>
        obtain ⟨j, hj, rfl, HE, HB2⟩ := hrel
        by_cases hlt : j < vn
        · obtain ⟨b, off, rfl, hs⟩ := HV4.out (by omega)
          have hcell := (hs.below HB2.out hs.1).2 j (by omega)
          clear hs
          have HER := Lib.hid (show errR vs old j = if memB old (partAt vs j) = false ∨ memB (vs.take j) (partAt vs j) = true then 6 else 0 from rfl)
          have HFE := Lib.hid (fun (e : errR vs old j ≠ 0) => firstE_hit (f := errR vs old) (n := vs.length) HE.out e (by omega))
          obtain ⟨p, hp⟩ : ∃ x, partAt vs j = x := ⟨_, rfl⟩
          rw [hp] at hcell HER
          clear hp
          have d0 : (0 : Int) ≤ (j : Int) := by omega
          have d1 : (j : Int) < (vn : Int) := by omega
          have d2 : (j : Int) ≤ (vc : Int) := by omega
          have HVd : Hid (StrsAt wr.drew (some ⟨b, off, none⟩) vn vc vs) := Lib.hid ((HV1.out.below HB2.out).below (Below.refl _ wr).drew)
          have HCd : Hid (StrsAt wr.drew (some ⟨b, off, none⟩) j vc (vs.take j)) := Lib.hid (HVd.out.cut j hj)
          have HXd : Hid (StrsAt wr.drew xo xn xc old) := Lib.hid ((HX.out.below HB2.out).below (Below.refl _ wr).drew)
          obtain ⟨m1, hm1⟩ : ∃ x, memB old p = x := ⟨_, rfl⟩
          obtain ⟨m2, hm2⟩ : ∃ x, memB (vs.take j) p = x := ⟨_, rfl⟩
          rw [hm1, hm2] at HER
          have HM1 := Lib.hid hm1
          have HM2 := Lib.hid hm2
          clear hm1 hm2
          cases m1 with
          | false =>
            have HL := Lib.hid (show remR l name vs = ([], 6) by
              rw [if_pos (.inl rfl)] at HER
              have h5 := HFE.out (by rw [HER.out]; decide)
              rw [HL0.out, if_neg (by omega), if_pos (by unfold remE; rw [h5, HER.out]; decide)])
            go_wp2_with fail
            refine wp_region_held_drew (S := fun W => W.cell? ⟨b, off + j, none⟩ = some (.string p)) (by kernel_rfl) (hcell) (fun hS => ?_)
            refine wpAnyH_take (i := 0) (oi := { dst := some 27, op := _, type := _, pos := _, after := _, guard := _ }) (v := ?_) rfl (by kernel_rfl) (by kernel_rfl) (by kernel_rfl) (fun _ _ _ h => h) (Or.inl ⟨by rfl, ?_⟩) (by assumption) ?_
            rotate_left
            · intro w hSw
              try dsimp only at hSw
              go_simp
              try with_reducible rfl
            try simp only [Act.put, List.setIfInBounds_toArray, List.set_cons_zero, List.set_cons_succ]
            refine wpAnyH_take (i := 1) (oi := { dst := some 28, op := _, type := _, pos := _, after := _, guard := _ }) (v := ?_) rfl (by kernel_rfl) (by kernel_rfl) (by kernel_rfl) (fun _ _ _ h => h) (Or.inl ⟨by rfl, ?_⟩) (by assumption) ?_
            rotate_left
            · intro w hSw
              try dsimp only at hSw
              go_simp
              try with_reducible rfl
            try simp only [Act.put, List.setIfInBounds_toArray, List.set_cons_zero, List.set_cons_succ]
            refine wpAnyH_take (i := 2) (oi := { dst := some 29, op := _, type := _, pos := _, after := _, guard := _ }) (v := ?_) rfl (by kernel_rfl) (by kernel_rfl) (by kernel_rfl) (fun _ _ _ h => h) (Or.inl ⟨by rfl, ?_⟩) (by assumption) ?_
            rotate_left
            · intro w hSw
              try dsimp only at hSw
              go_simp
              try with_reducible rfl
            try simp only [Act.put, List.setIfInBounds_toArray, List.set_cons_zero, List.set_cons_succ]
            refine wpAnyH_take (i := 3) (oi := { dst := some 30, op := _, type := _, pos := _, after := _, guard := _ }) (v := ?_) rfl (by kernel_rfl) (by kernel_rfl) (by kernel_rfl) (fun _ _ _ h => h) (Or.inl ⟨by rfl, ?_⟩) (by assumption) ?_
            rotate_left
            · intro w hSw
              try dsimp only at hSw
              go_simp
              try with_reducible rfl
            try simp only [Act.put, List.setIfInBounds_toArray, List.set_cons_zero, List.set_cons_succ]
            refine wpAnyH_take (i := 4) (oi := { dst := some 31, op := _, type := _, pos := _, after := _, guard := _ }) (v := ?_) rfl (by kernel_rfl) (by kernel_rfl) (by kernel_rfl) (fun _ _ _ h => h) (Or.inl ⟨by rfl, ?_⟩) (by assumption) ?_
            rotate_left
            · intro w hSw
              try dsimp only at hSw
              go_simp
              try with_reducible rfl
            try simp only [Act.put, List.setIfInBounds_toArray, List.set_cons_zero, List.set_cons_succ]
            refine wpAnyH_ready (rs := [5]) (by kernel_rfl) (by simp) ?_
            refine AllReadyH.cons rfl (fun K hK => ?_) AllReadyH.nil
            go_simp
            refine (has_s xo xn xc old p _ HXd.out).mono ?_
            rintro e w5 ⟨rfl, rfl⟩
            rw [HM1.out]
            go_wp2_with fail
            refine hK.out _ _ ?_ (fun hHeld => ?_)
            · assumption
            clear hK K
            try simp only [Act.put, List.setIfInBounds_toArray, List.set_cons_zero, List.set_cons_succ]
            refine wpAnyH_take (i := 6) (oi := { dst := some 33, op := _, type := _, pos := _, after := _, guard := _ }) (v := ?_) rfl (by kernel_rfl) (by kernel_rfl) (by kernel_rfl) (fun _ _ _ h => h) (Or.inl ⟨by rfl, ?_⟩) (by assumption) ?_
            rotate_left
            · intro w hSw
              try dsimp only at hSw
              go_simp
              try with_reducible rfl
            try simp only [Act.put, List.setIfInBounds_toArray, List.set_cons_zero, List.set_cons_succ]
            refine wpAnyH_take (i := 7) (oi := { dst := some 34, op := _, type := _, pos := _, after := _, guard := _ }) (v := ?_) rfl (by kernel_rfl) (by kernel_rfl) (by kernel_rfl) (fun _ _ _ h => h) (Or.inl ⟨by rfl, ?_⟩) (by assumption) ?_
            rotate_left
            · intro w hSw
              try dsimp only at hSw
              go_simp
              try with_reducible rfl
            try simp only [Act.put, List.setIfInBounds_toArray, List.set_cons_zero, List.set_cons_succ]
            refine wpAnyH_take (i := 8) (oi := { dst := some 35, op := _, type := _, pos := _, after := _, guard := _ }) (v := undef) rfl (by kernel_rfl) (by kernel_rfl) (by kernel_rfl) (fun _ _ _ h => h) (Or.inr ⟨by rfl, rfl⟩) (by assumption) ?_
            try simp only [Act.put, List.setIfInBounds_toArray, List.set_cons_zero, List.set_cons_succ]
            refine wpAnyH_take (i := 9) (oi := { dst := some 36, op := _, type := _, pos := _, after := _, guard := _ }) (v := undef) rfl (by kernel_rfl) (by kernel_rfl) (by kernel_rfl) (fun _ _ _ h => h) (Or.inr ⟨by rfl, rfl⟩) (by assumption) ?_
            try simp only [Act.put, List.setIfInBounds_toArray, List.set_cons_zero, List.set_cons_succ]
            refine wpAnyH_take (i := 10) (oi := { dst := some 37, op := _, type := _, pos := _, after := _, guard := _ }) (v := undef) rfl (by kernel_rfl) (by kernel_rfl) (by kernel_rfl) (fun _ _ _ h => h) (Or.inr ⟨by rfl, rfl⟩) (by assumption) ?_
            try simp only [Act.put, List.setIfInBounds_toArray, List.set_cons_zero, List.set_cons_succ]
            refine wpAnyH_take (i := 11) (oi := { dst := some 38, op := _, type := _, pos := _, after := _, guard := _ }) (v := undef) rfl (by kernel_rfl) (by kernel_rfl) (by kernel_rfl) (fun _ _ _ h => h) (Or.inr ⟨by rfl, rfl⟩) (by assumption) ?_
            try simp only [Act.put, List.setIfInBounds_toArray, List.set_cons_zero, List.set_cons_succ]
            refine wpAnyH_take (i := 12) (oi := { dst := some 39, op := _, type := _, pos := _, after := _, guard := _ }) (v := undef) rfl (by kernel_rfl) (by kernel_rfl) (by kernel_rfl) (fun _ _ _ h => h) (Or.inr ⟨by rfl, rfl⟩) (by assumption) ?_
            try simp only [Act.put, List.setIfInBounds_toArray, List.set_cons_zero, List.set_cons_succ]
            refine wpAnyH_take (i := 13) (oi := { dst := some 40, op := _, type := _, pos := _, after := _, guard := _ }) (v := undef) rfl (by kernel_rfl) (by kernel_rfl) (by kernel_rfl) (fun _ _ _ h => h) (Or.inr ⟨by rfl, rfl⟩) (by assumption) ?_
            try simp only [Act.put, List.setIfInBounds_toArray, List.set_cons_zero, List.set_cons_succ]
            refine wpAnyH_take (i := 14) (oi := { dst := some 41, op := _, type := _, pos := _, after := _, guard := _ }) (v := undef) rfl (by kernel_rfl) (by kernel_rfl) (by kernel_rfl) (fun _ _ _ h => h) (Or.inr ⟨by rfl, rfl⟩) (by assumption) ?_
            try simp only [Act.put, List.setIfInBounds_toArray, List.set_cons_zero, List.set_cons_succ]
            refine wpAnyH_take (i := 15) (oi := { dst := some 42, op := _, type := _, pos := _, after := _, guard := _ }) (v := undef) rfl (by kernel_rfl) (by kernel_rfl) (by kernel_rfl) (fun _ _ _ h => h) (Or.inr ⟨by rfl, rfl⟩) (by assumption) ?_
            try simp only [Act.put, List.setIfInBounds_toArray, List.set_cons_zero, List.set_cons_succ]
            refine wpAnyH_take (i := 16) (oi := { dst := some 43, op := _, type := _, pos := _, after := _, guard := _ }) (v := ?_) rfl (by kernel_rfl) (by kernel_rfl) (by kernel_rfl) (fun _ _ _ h => h) (Or.inl ⟨by rfl, ?_⟩) (by assumption) ?_
            rotate_left
            · intro w hSw
              try dsimp only at hSw
              go_simp
              try with_reducible rfl
            try simp only [Act.put, List.setIfInBounds_toArray, List.set_cons_zero, List.set_cons_succ]
            refine wpAnyH_done (by kernel_rfl) ?_ _
            go_wp2_with fail
            go_ret2
            exact ⟨_, by rw [HL.out]; rfl, by rw [HL.out]; exact atts_nil _, HB.out.trans (HB2.out.drew.mono HB.out.size)⟩
          | true =>
            cases m2 with
            | true =>
              have HL := Lib.hid (show remR l name vs = ([], 6) by
                rw [if_pos (.inr rfl)] at HER
                have h5 := HFE.out (by rw [HER.out]; decide)
                rw [HL0.out, if_neg (by omega), if_pos (by unfold remE; rw [h5, HER.out]; decide)])
              go_wp2_with fail
              refine wp_region_held_drew (S := fun W => W.cell? ⟨b, off + j, none⟩ = some (.string p)) (by kernel_rfl) (hcell) (fun hS => ?_)
              refine wpAnyH_take (i := 0) (oi := { dst := some 27, op := _, type := _, pos := _, after := _, guard := _ }) (v := ?_) rfl (by kernel_rfl) (by kernel_rfl) (by kernel_rfl) (fun _ _ _ h => h) (Or.inl ⟨by rfl, ?_⟩) (by assumption) ?_
              rotate_left
              · intro w hSw
                try dsimp only at hSw
                go_simp
                try with_reducible rfl
              try simp only [Act.put, List.setIfInBounds_toArray, List.set_cons_zero, List.set_cons_succ]
              refine wpAnyH_take (i := 1) (oi := { dst := some 28, op := _, type := _, pos := _, after := _, guard := _ }) (v := ?_) rfl (by kernel_rfl) (by kernel_rfl) (by kernel_rfl) (fun _ _ _ h => h) (Or.inl ⟨by rfl, ?_⟩) (by assumption) ?_
              rotate_left
              · intro w hSw
                try dsimp only at hSw
                go_simp
                try with_reducible rfl
              try simp only [Act.put, List.setIfInBounds_toArray, List.set_cons_zero, List.set_cons_succ]
              refine wpAnyH_take (i := 2) (oi := { dst := some 29, op := _, type := _, pos := _, after := _, guard := _ }) (v := ?_) rfl (by kernel_rfl) (by kernel_rfl) (by kernel_rfl) (fun _ _ _ h => h) (Or.inl ⟨by rfl, ?_⟩) (by assumption) ?_
              rotate_left
              · intro w hSw
                try dsimp only at hSw
                go_simp
                try with_reducible rfl
              try simp only [Act.put, List.setIfInBounds_toArray, List.set_cons_zero, List.set_cons_succ]
              refine wpAnyH_take (i := 3) (oi := { dst := some 30, op := _, type := _, pos := _, after := _, guard := _ }) (v := ?_) rfl (by kernel_rfl) (by kernel_rfl) (by kernel_rfl) (fun _ _ _ h => h) (Or.inl ⟨by rfl, ?_⟩) (by assumption) ?_
              rotate_left
              · intro w hSw
                try dsimp only at hSw
                go_simp
                try with_reducible rfl
              try simp only [Act.put, List.setIfInBounds_toArray, List.set_cons_zero, List.set_cons_succ]
              refine wpAnyH_take (i := 4) (oi := { dst := some 31, op := _, type := _, pos := _, after := _, guard := _ }) (v := ?_) rfl (by kernel_rfl) (by kernel_rfl) (by kernel_rfl) (fun _ _ _ h => h) (Or.inl ⟨by rfl, ?_⟩) (by assumption) ?_
              rotate_left
              · intro w hSw
                try dsimp only at hSw
                go_simp
                try with_reducible rfl
              try simp only [Act.put, List.setIfInBounds_toArray, List.set_cons_zero, List.set_cons_succ]
              refine wpAnyH_ready (rs := [5]) (by kernel_rfl) (by simp) ?_
              refine AllReadyH.cons rfl (fun K hK => ?_) AllReadyH.nil
              go_simp
              refine (has_s xo xn xc old p _ HXd.out).mono ?_
              rintro e w5 ⟨rfl, rfl⟩
              rw [HM1.out]
              go_wp2_with fail
              refine hK.out _ _ ?_ (fun hHeld => ?_)
              · assumption
              clear hK K
              try simp only [Act.put, List.setIfInBounds_toArray, List.set_cons_zero, List.set_cons_succ]
              refine wpAnyH_take (i := 6) (oi := { dst := some 33, op := _, type := _, pos := _, after := _, guard := _ }) (v := ?_) rfl (by kernel_rfl) (by kernel_rfl) (by kernel_rfl) (fun _ _ _ h => h) (Or.inl ⟨by rfl, ?_⟩) (by assumption) ?_
              rotate_left
              · intro w hSw
                try dsimp only at hSw
                go_simp
                try with_reducible rfl
              try simp only [Act.put, List.setIfInBounds_toArray, List.set_cons_zero, List.set_cons_succ]
              refine wpAnyH_take (i := 7) (oi := { dst := some 34, op := _, type := _, pos := _, after := _, guard := _ }) (v := ?_) rfl (by kernel_rfl) (by kernel_rfl) (by kernel_rfl) (fun _ _ _ h => h) (Or.inl ⟨by rfl, ?_⟩) (by assumption) ?_
              rotate_left
              · intro w hSw
                try dsimp only at hSw
                go_simp
                try with_reducible rfl
              try simp only [Act.put, List.setIfInBounds_toArray, List.set_cons_zero, List.set_cons_succ]
              refine wpAnyH_take (i := 8) (oi := { dst := some 35, op := _, type := _, pos := _, after := _, guard := _ }) (v := ?_) rfl (by kernel_rfl) (by kernel_rfl) (by kernel_rfl) (fun _ _ _ h => h) (Or.inl ⟨by rfl, ?_⟩) (by assumption) ?_
              rotate_left
              · intro w hSw
                try dsimp only at hSw
                go_simp
                try with_reducible rfl
              try simp only [Act.put, List.setIfInBounds_toArray, List.set_cons_zero, List.set_cons_succ]
              refine wpAnyH_take (i := 9) (oi := { dst := some 36, op := _, type := _, pos := _, after := _, guard := _ }) (v := ?_) rfl (by kernel_rfl) (by kernel_rfl) (by kernel_rfl) (fun _ _ _ h => h) (Or.inl ⟨by rfl, ?_⟩) (by assumption) ?_
              rotate_left
              · intro w hSw
                try dsimp only at hSw
                go_simp
                try with_reducible rfl
              try simp only [Act.put, List.setIfInBounds_toArray, List.set_cons_zero, List.set_cons_succ]
              refine wpAnyH_take (i := 10) (oi := { dst := some 37, op := _, type := _, pos := _, after := _, guard := _ }) (v := ?_) rfl (by kernel_rfl) (by kernel_rfl) (by kernel_rfl) (fun _ _ _ h => h) (Or.inl ⟨by rfl, ?_⟩) (by assumption) ?_
              rotate_left
              · intro w hSw
                try dsimp only at hSw
                go_simp
                try with_reducible rfl
              try simp only [Act.put, List.setIfInBounds_toArray, List.set_cons_zero, List.set_cons_succ]
              refine wpAnyH_take (i := 11) (oi := { dst := some 38, op := _, type := _, pos := _, after := _, guard := _ }) (v := ?_) rfl (by kernel_rfl) (by kernel_rfl) (by kernel_rfl) (fun _ _ _ h => h) (Or.inl ⟨by rfl, ?_⟩) (by assumption) ?_
              rotate_left
              · intro w hSw
                try dsimp only at hSw
                go_simp
                try with_reducible rfl
              try simp only [Act.put, List.setIfInBounds_toArray, List.set_cons_zero, List.set_cons_succ]
              refine wpAnyH_take (i := 12) (oi := { dst := some 39, op := _, type := _, pos := _, after := _, guard := _ }) (v := ?_) rfl (by kernel_rfl) (by kernel_rfl) (by kernel_rfl) (fun _ _ _ h => h) (Or.inl ⟨by rfl, ?_⟩) (by assumption) ?_
              rotate_left
              · intro w hSw
                try dsimp only at hSw
                go_simp
                try with_reducible rfl
              try simp only [Act.put, List.setIfInBounds_toArray, List.set_cons_zero, List.set_cons_succ]
              refine wpAnyH_take (i := 13) (oi := { dst := some 40, op := _, type := _, pos := _, after := _, guard := _ }) (v := ?_) rfl (by kernel_rfl) (by kernel_rfl) (by kernel_rfl) (fun _ _ _ h => h) (Or.inl ⟨by rfl, ?_⟩) (by assumption) ?_
              rotate_left
              · intro w hSw
                try dsimp only at hSw
                go_simp
                try with_reducible rfl
              try simp only [Act.put, List.setIfInBounds_toArray, List.set_cons_zero, List.set_cons_succ]
              refine wpAnyH_take (i := 14) (oi := { dst := some 41, op := _, type := _, pos := _, after := _, guard := _ }) (v := ?_) rfl (by kernel_rfl) (by kernel_rfl) (by kernel_rfl) (fun _ _ _ h => h) (Or.inl ⟨by rfl, ?_⟩) (by assumption) ?_
              rotate_left
              · intro w hSw
                try dsimp only at hSw
                go_simp
                try with_reducible rfl
              try simp only [Act.put, List.setIfInBounds_toArray, List.set_cons_zero, List.set_cons_succ]
              refine wpAnyH_ready (rs := [15]) (by kernel_rfl) (by simp) ?_
              refine AllReadyH.cons rfl (fun K hK => ?_) AllReadyH.nil
              go_simp
              refine (has_s _ j vc (vs.take j) p _ HCd.out).mono ?_
              rintro e w5 ⟨rfl, rfl⟩
              rw [HM2.out]
              go_wp2_with fail
              refine hK.out _ _ ?_ (fun hHeld => ?_)
              · assumption
              clear hK K
              try simp only [Act.put, List.setIfInBounds_toArray, List.set_cons_zero, List.set_cons_succ]
              refine wpAnyH_take (i := 16) (oi := { dst := some 43, op := _, type := _, pos := _, after := _, guard := _ }) (v := ?_) rfl (by kernel_rfl) (by kernel_rfl) (by kernel_rfl) (fun _ _ _ h => h) (Or.inl ⟨by rfl, ?_⟩) (by assumption) ?_
              rotate_left
              · intro w hSw
                try dsimp only at hSw
                go_simp
                try with_reducible rfl
              try simp only [Act.put, List.setIfInBounds_toArray, List.set_cons_zero, List.set_cons_succ]
              refine wpAnyH_done (by kernel_rfl) ?_ _
              go_wp2_with fail
              go_ret2
              exact ⟨_, by rw [HL.out]; rfl, by rw [HL.out]; exact atts_nil _, HB.out.trans (HB2.out.drew.mono HB.out.size)⟩
            | false =>
              have HZ := Lib.hid (show errR vs old j = 0 by rw [HER.out]; simp)
              have HB3 := Lib.hid HB2.out.drew
              go_wp2_with fail
              refine wp_region_held_drew (S := fun W => W.cell? ⟨b, off + j, none⟩ = some (.string p)) (by kernel_rfl) (hcell) (fun hS => ?_)
              refine wpAnyH_take (i := 0) (oi := { dst := some 27, op := _, type := _, pos := _, after := _, guard := _ }) (v := ?_) rfl (by kernel_rfl) (by kernel_rfl) (by kernel_rfl) (fun _ _ _ h => h) (Or.inl ⟨by rfl, ?_⟩) (by assumption) ?_
              rotate_left
              · intro w hSw
                try dsimp only at hSw
                go_simp
                try with_reducible rfl
              try simp only [Act.put, List.setIfInBounds_toArray, List.set_cons_zero, List.set_cons_succ]
              refine wpAnyH_take (i := 1) (oi := { dst := some 28, op := _, type := _, pos := _, after := _, guard := _ }) (v := ?_) rfl (by kernel_rfl) (by kernel_rfl) (by kernel_rfl) (fun _ _ _ h => h) (Or.inl ⟨by rfl, ?_⟩) (by assumption) ?_
              rotate_left
              · intro w hSw
                try dsimp only at hSw
                go_simp
                try with_reducible rfl
              try simp only [Act.put, List.setIfInBounds_toArray, List.set_cons_zero, List.set_cons_succ]
              refine wpAnyH_take (i := 2) (oi := { dst := some 29, op := _, type := _, pos := _, after := _, guard := _ }) (v := ?_) rfl (by kernel_rfl) (by kernel_rfl) (by kernel_rfl) (fun _ _ _ h => h) (Or.inl ⟨by rfl, ?_⟩) (by assumption) ?_
              rotate_left
              · intro w hSw
                try dsimp only at hSw
                go_simp
                try with_reducible rfl
              try simp only [Act.put, List.setIfInBounds_toArray, List.set_cons_zero, List.set_cons_succ]
              refine wpAnyH_take (i := 3) (oi := { dst := some 30, op := _, type := _, pos := _, after := _, guard := _ }) (v := ?_) rfl (by kernel_rfl) (by kernel_rfl) (by kernel_rfl) (fun _ _ _ h => h) (Or.inl ⟨by rfl, ?_⟩) (by assumption) ?_
              rotate_left
              · intro w hSw
                try dsimp only at hSw
                go_simp
                try with_reducible rfl
              try simp only [Act.put, List.setIfInBounds_toArray, List.set_cons_zero, List.set_cons_succ]
              refine wpAnyH_take (i := 4) (oi := { dst := some 31, op := _, type := _, pos := _, after := _, guard := _ }) (v := ?_) rfl (by kernel_rfl) (by kernel_rfl) (by kernel_rfl) (fun _ _ _ h => h) (Or.inl ⟨by rfl, ?_⟩) (by assumption) ?_
              rotate_left
              · intro w hSw
                try dsimp only at hSw
                go_simp
                try with_reducible rfl
              try simp only [Act.put, List.setIfInBounds_toArray, List.set_cons_zero, List.set_cons_succ]
              refine wpAnyH_ready (rs := [5]) (by kernel_rfl) (by simp) ?_
              refine AllReadyH.cons rfl (fun K hK => ?_) AllReadyH.nil
              go_simp
              refine (has_s xo xn xc old p _ HXd.out).mono ?_
              rintro e w5 ⟨rfl, rfl⟩
              rw [HM1.out]
              go_wp2_with fail
              refine hK.out _ _ ?_ (fun hHeld => ?_)
              · assumption
              clear hK K
              try simp only [Act.put, List.setIfInBounds_toArray, List.set_cons_zero, List.set_cons_succ]
              refine wpAnyH_take (i := 6) (oi := { dst := some 33, op := _, type := _, pos := _, after := _, guard := _ }) (v := ?_) rfl (by kernel_rfl) (by kernel_rfl) (by kernel_rfl) (fun _ _ _ h => h) (Or.inl ⟨by rfl, ?_⟩) (by assumption) ?_
              rotate_left
              · intro w hSw
                try dsimp only at hSw
                go_simp
                try with_reducible rfl
              try simp only [Act.put, List.setIfInBounds_toArray, List.set_cons_zero, List.set_cons_succ]
              refine wpAnyH_take (i := 7) (oi := { dst := some 34, op := _, type := _, pos := _, after := _, guard := _ }) (v := ?_) rfl (by kernel_rfl) (by kernel_rfl) (by kernel_rfl) (fun _ _ _ h => h) (Or.inl ⟨by rfl, ?_⟩) (by assumption) ?_
              rotate_left
              · intro w hSw
                try dsimp only at hSw
                go_simp
                try with_reducible rfl
              try simp only [Act.put, List.setIfInBounds_toArray, List.set_cons_zero, List.set_cons_succ]
              refine wpAnyH_take (i := 8) (oi := { dst := some 35, op := _, type := _, pos := _, after := _, guard := _ }) (v := ?_) rfl (by kernel_rfl) (by kernel_rfl) (by kernel_rfl) (fun _ _ _ h => h) (Or.inl ⟨by rfl, ?_⟩) (by assumption) ?_
              rotate_left
              · intro w hSw
                try dsimp only at hSw
                go_simp
                try with_reducible rfl
              try simp only [Act.put, List.setIfInBounds_toArray, List.set_cons_zero, List.set_cons_succ]
              refine wpAnyH_take (i := 9) (oi := { dst := some 36, op := _, type := _, pos := _, after := _, guard := _ }) (v := ?_) rfl (by kernel_rfl) (by kernel_rfl) (by kernel_rfl) (fun _ _ _ h => h) (Or.inl ⟨by rfl, ?_⟩) (by assumption) ?_
              rotate_left
              · intro w hSw
                try dsimp only at hSw
                go_simp
                try with_reducible rfl
              try simp only [Act.put, List.setIfInBounds_toArray, List.set_cons_zero, List.set_cons_succ]
              refine wpAnyH_take (i := 10) (oi := { dst := some 37, op := _, type := _, pos := _, after := _, guard := _ }) (v := ?_) rfl (by kernel_rfl) (by kernel_rfl) (by kernel_rfl) (fun _ _ _ h => h) (Or.inl ⟨by rfl, ?_⟩) (by assumption) ?_
              rotate_left
              · intro w hSw
                try dsimp only at hSw
                go_simp
                try with_reducible rfl
              try simp only [Act.put, List.setIfInBounds_toArray, List.set_cons_zero, List.set_cons_succ]
              refine wpAnyH_take (i := 11) (oi := { dst := some 38, op := _, type := _, pos := _, after := _, guard := _ }) (v := ?_) rfl (by kernel_rfl) (by kernel_rfl) (by kernel_rfl) (fun _ _ _ h => h) (Or.inl ⟨by rfl, ?_⟩) (by assumption) ?_
              rotate_left
              · intro w hSw
                try dsimp only at hSw
                go_simp
                try with_reducible rfl
              try simp only [Act.put, List.setIfInBounds_toArray, List.set_cons_zero, List.set_cons_succ]
              refine wpAnyH_take (i := 12) (oi := { dst := some 39, op := _, type := _, pos := _, after := _, guard := _ }) (v := ?_) rfl (by kernel_rfl) (by kernel_rfl) (by kernel_rfl) (fun _ _ _ h => h) (Or.inl ⟨by rfl, ?_⟩) (by assumption) ?_
              rotate_left
              · intro w hSw
                try dsimp only at hSw
                go_simp
                try with_reducible rfl
              try simp only [Act.put, List.setIfInBounds_toArray, List.set_cons_zero, List.set_cons_succ]
              refine wpAnyH_take (i := 13) (oi := { dst := some 40, op := _, type := _, pos := _, after := _, guard := _ }) (v := ?_) rfl (by kernel_rfl) (by kernel_rfl) (by kernel_rfl) (fun _ _ _ h => h) (Or.inl ⟨by rfl, ?_⟩) (by assumption) ?_
              rotate_left
              · intro w hSw
                try dsimp only at hSw
                go_simp
                try with_reducible rfl
              try simp only [Act.put, List.setIfInBounds_toArray, List.set_cons_zero, List.set_cons_succ]
              refine wpAnyH_take (i := 14) (oi := { dst := some 41, op := _, type := _, pos := _, after := _, guard := _ }) (v := ?_) rfl (by kernel_rfl) (by kernel_rfl) (by kernel_rfl) (fun _ _ _ h => h) (Or.inl ⟨by rfl, ?_⟩) (by assumption) ?_
              rotate_left
              · intro w hSw
                try dsimp only at hSw
                go_simp
                try with_reducible rfl
              try simp only [Act.put, List.setIfInBounds_toArray, List.set_cons_zero, List.set_cons_succ]
              refine wpAnyH_ready (rs := [15]) (by kernel_rfl) (by simp) ?_
              refine AllReadyH.cons rfl (fun K hK => ?_) AllReadyH.nil
              go_simp
              refine (has_s _ j vc (vs.take j) p _ HCd.out).mono ?_
              rintro e w5 ⟨rfl, rfl⟩
              rw [HM2.out]
              go_wp2_with fail
              refine hK.out _ _ ?_ (fun hHeld => ?_)
              · assumption
              clear hK K
              try simp only [Act.put, List.setIfInBounds_toArray, List.set_cons_zero, List.set_cons_succ]
              refine wpAnyH_take (i := 16) (oi := { dst := some 43, op := _, type := _, pos := _, after := _, guard := _ }) (v := ?_) rfl (by kernel_rfl) (by kernel_rfl) (by kernel_rfl) (fun _ _ _ h => h) (Or.inl ⟨by rfl, ?_⟩) (by assumption) ?_
              rotate_left
              · intro w hSw
                try dsimp only at hSw
                go_simp
                try with_reducible rfl
              try simp only [Act.put, List.setIfInBounds_toArray, List.set_cons_zero, List.set_cons_succ]
              refine wpAnyH_done (by kernel_rfl) ?_ _
              go_wp2_with fail
              go_roundw
              case rel =>
                refine ⟨j + 1, by omega, by go_num, Lib.hid fun q hq => ?_, HB3⟩
                by_cases e : q = j
                · rw [e]; exact HZ.out
                · exact HE.out q (by omega)
              case measure => simp [intOf]; omega
        · obtain rfl : vn = j := by omega
          have HL := Lib.hid (show remR l name vs = (withL l name (leftV old vs), 0) by
            rw [HL0.out, if_neg (by omega), if_neg]
            rw [Classical.not_not]
            exact firstE_zero fun q hq => HE.out q (by omega))
          have HV2 := Lib.hid (HV1.out.below HB2.out)
          clear HE HL0
          obtain ⟨wa, hwa⟩ : ∃ x, x = wr := ⟨_, rfl⟩
          subst hwa
          go_wp2_with fail
          go_loopw [10, 11] (fun v iv wr => ∃ q : Nat, q ≤ xn ∧ iv = .int .i64 q ∧ wr.ownsRow wa.heap.size 9 1 v (leftV (old.take q) vs).length (scells (leftV (old.take q) vs)) ∧ Hid (Below wa.heap.size wa wr)) (fun _ iv _ => xn - (intOf iv).toNat)
          case atStart => exact ⟨0, Nat.zero_le _, rfl, World.ownsRow_nil _ _ _ _, Lib.hid (Below.refl _ _)⟩
          case round =>
            obtain ⟨q, hq, rfl, hown, HB3⟩ := hrel
            by_cases hlt : q < xn
            · obtain ⟨b, off, rfl, hs⟩ := HX4.out (by omega)
              have HB3w := Lib.hid (HB2.out.trans (HB3.out.mono HB2.out.size))
              have hcell := (hs.below HB3w.out hs.1).2 q (by omega)
              clear hs
              have HVq := Lib.hid (HV2.out.below HB3.out)
              have HLS := Lib.hid (left_snoc (old := old) (vs := vs) (q := q) (by omega))
              obtain ⟨p, hp⟩ : ∃ x, partAt old q = x := ⟨_, rfl⟩
              rw [hp] at hcell HLS
              clear hp
              have hll : (leftV (old.take q) vs).length ≤ 40000 := by have h5 := left_len (old.take q) vs; rw [List.length_take] at h5; omega
              have d0 : (q : Int) < (xn : Int) := by omega
              obtain ⟨m1, hm1⟩ : ∃ x, memB vs p = x := ⟨_, rfl⟩
              rw [hm1] at HLS
              have HM1 := Lib.hid hm1
              clear hm1
              have hsz3 := HB3.out.size
              by_cases hpos : 0 < vn
              · have d1 : decide ((0 : Int) < (vn : Int)) = true := decide_eq_true (by omega)
                cases m1 with
                | true =>
                  have HL2 := Lib.hid (show leftV (old.take (q + 1)) vs = leftV (old.take q) vs by rw [HLS.out, if_neg (by simp), List.append_nil])
                  go_wp2_with (go_at_call 51; refine (has_s vo vn vc vs p _ HVq.out).mono ?_; rintro e w' ⟨rfl, rfl⟩; rw [HM1.out])
                  go_roundw
                  case rel => exact ⟨q + 1, by omega, by go_num, by rw [HL2.out]; exact hown, HB3⟩
                  case measure => simp [intOf]; omega
                | false =>
                  have HL2 := Lib.hid (show leftV (old.take (q + 1)) vs = leftV (old.take q) vs ++ [p] by rw [HLS.out, if_pos (by rw [Bool.and_eq_true]; exact ⟨decide_eq_true (by omega), rfl⟩)])
                  go_wp2_with (first
                    | (go_at_call 51; refine (has_s vo vn vc vs p _ HVq.out).mono ?_; rintro e w' ⟨rfl, rfl⟩; rw [HM1.out])
                    | (at_builtin; go_must (refine push_str _ hown (.tmp 62) (.tmp 67) p ?_ ?_ ?_ ?_ ?_ ?_ ?_; exact rfl; exact rfl; exact rfl; exact rfl; omega; exact hsz3; intro v3 w3 hown3 hb3)))
                  go_roundw
                  case rel => exact ⟨q + 1, by omega, by go_num, by rw [HL2.out, scells_snoc, List.length_append]; exact hown3, Lib.hid (HB3.out.trans hb3)⟩
                  case measure => simp [intOf]; omega
              · have d1 : decide ((0 : Int) < (vn : Int)) = false := decide_eq_false (by omega)
                have HL2 := Lib.hid (show leftV (old.take (q + 1)) vs = leftV (old.take q) vs by rw [HLS.out, if_neg (by rw [decide_eq_false (by omega)]; simp), List.append_nil])
                go_wp2_with fail
                go_roundw
                case rel => exact ⟨q + 1, by omega, by go_num, by rw [HL2.out]; exact hown, HB3⟩
                case measure => simp [intOf]; omega
            · obtain rfl : xn = q := by omega
              rw [List.take_of_length_le (by omega)] at hown
              have hll : (leftV old vs).length ≤ 40000 := Nat.le_trans (left_len old vs) hol
              have HRM : Hid (Room l (leftV old vs)) := Lib.hid ⟨HF.out.small, by have := HF.out.tot; omega, by have := HF.out.len; omega, left_small HOS.out⟩
              have HB4 := Lib.hid (HB.out.trans ((HB2.out.trans (HB3.out.mono HB2.out.size)).mono HB.out.size))
              obtain ⟨yo, yc, rfl, hy⟩ := strs_own hown rfl
              have HY := Lib.hid hy
              have HWO := Lib.hid (rwithout_s ao n cap l name wr (HA.out.below HB4.out) HF.out.few hns)
              have HFW := Lib.hid (few_with HRM.out (lowS name) hns)
              clear hy hown
              go_wp2_with fail
              refine HWO.out.mono ?_
              rintro e w5 ⟨v5, rfl, ⟨U, hU, hUO, hown⟩, hb⟩
              have HB5 := Lib.hid (HB4.out.trans (hb.mono HB4.out.size))
              have HYd : Hid (StrsAt w5 yo (leftV old vs).length yc (leftV old vs)) := Lib.hid (HY.out.below hb)
              have HUO := Lib.hid hUO
              have HU := Lib.hid hU
              have hul : U.length ≤ 1000 := by have h5 := HFW.out.len; rw [List.length_append, ← hU, tats_len] at h5; omega
              have hsz := hb.size
              obtain ⟨ln, hln⟩ : ∃ x, (leftV old vs).length = x := ⟨_, rfl⟩
              rw [hln] at HYd
              have HHd : Hid (Hdr w5 (.slice yo ln yc) (leftV old vs)) := Lib.hid ⟨yo, ln, yc, rfl, HYd.out⟩
              have HHr : Hid (Hdr wr (.slice yo ln yc) (leftV old vs)) := Lib.hid ⟨yo, ln, yc, rfl, by rw [← hln]; exact HY.out⟩
              rw [hln]
              have hbw := hb
              clear hb HWO hUO hU HY
              go_wp2_with (at_builtin; go_must (refine app_attrs (w5.alloc (.cells #[.string name, .slice yo ln yc] 42)) (hown.alloc _) (.tmp 71) (.tmp 75) _ 1 1 [(name, .slice yo ln yc, leftV old vs)] ?_ ?_ ?_ ?_ (ts_new1 w5 (name, .slice yo ln yc, leftV old vs)) ?_ ?_ ?_ ?_; exact rfl; exact rfl; exact rfl; exact rfl; exact (fun t ht => by rw [List.mem_singleton.1 ht]; exact HHd.out.below ((Below.refl _ w5).alloc (Nat.le_refl _) _)); omega; (simp; omega); intro v7 w7 hown7 hg7 hl7))
              have HTO7 := ((HUO.out.below ((Below.refl _ w5).alloc (Nat.le_refl _) _)).grown hg7 hl7)
              have hb7 : Below wr.heap.size wr w7 := (hbw.alloc hsz _).grown hg7 (by simp; omega) (fun q hq => (hown.lt q hq).1)
              have hHd7 : Hdr w7 (.slice yo ln yc) (leftV old vs) := HHr.out.below hb7
              have hown8 : w7.ownsRow wr.heap.size 42 2 v7 (U.length + 1) (tcells (U ++ [(name, .slice yo ln yc, leftV old vs)])) := by rw [tcells_append]; exact hown7
              obtain ⟨zo, zn, zc, rfl, hx⟩ := atts_own hown8 (HTO7.ok.app fun t ht => by rw [List.mem_singleton.1 ht]; exact hHd7)
              have e7 : tats (U ++ [(name, .slice yo ln yc, leftV old vs)]) = wthL l (lowS name) ++ [(name, leftV old vs)] := by rw [tats_append, HU.out]; rfl
              rw [e7] at hx
              have HS := Lib.hid (rsorted_s zo zn zc _ w7 hx HFW.out.small HFW.out.vals (by rw [← hx.1]; exact HFW.out.len))
              have HB7 := Lib.hid (HB4.out.trans (hb7.mono HB4.out.size))
              clear hx e7 hown8 hHd7 hb7 HTO7 hown7 hown hg7 hl7
              go_wp2_with fail
              refine HS.out.mono ?_
              rintro e w8 ⟨v8, T, rfl, hT, hTO, hown, hb⟩
              have hR := atts_own hown hTO.ok
              rw [hT] at hR
              go_wp2_with fail
              go_ret2
              exact ⟨_, by rw [HL.out]; rfl, by rw [HL.out]; exact hR, HB7.out.trans (hb.mono HB7.out.size)⟩

end Go.Proofs.Ytahpocpagidahaa
