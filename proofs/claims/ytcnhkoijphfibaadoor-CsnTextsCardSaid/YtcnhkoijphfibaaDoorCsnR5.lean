/-
  Contract of the specification's Parse. Condition: strings of at most 1000000 bytes.
-/
import Derived.Test.YtcnhkoijphfibaaDoorCsnF9
import Derived.Test.YtcnhkoijphfibaaDoorCsnB
set_option maxRecDepth 100000
set_option linter.unusedVariables false
set_option linter.unusedSimpArgs false
set_option linter.unnecessarySimpa false
namespace Go.Proofs.YtcnhkoijphfibaaDoor
open Go.RowKit Go.PlainAid

theorem get_chr {s : ByteArray} {k : Nat} (h : k < s.size) : s.data.toList[k]? = some (chr s k) := by
  have hl : k < s.data.toList.length := by rw [← Lib.size_eq]; exact h
  unfold chr
  rw [List.getD_eq_getElem?_getD, List.getElem?_eq_getElem hl]
  rfl
theorem bt_45 {s : ByteArray} {k : Nat} : bt s k = 45 ↔ chr s k = 45 := by
  rw [bt_chr]
  constructor
  · intro h; exact UInt8.toNat_inj.1 (by have : (45 : UInt8).toNat = 45 := rfl; omega)
  · intro h; rw [h]; rfl
theorem par_not {s : ByteArray} (h : ¬ (s.size = 22 ∧ bt s 11 = 45 ∧ bt s 20 = 45)) : parR s.data.toList = none := by
  unfold parR
  rw [if_neg]
  rintro ⟨h0, h1, h2⟩
  rw [← Lib.size_eq] at h0
  rw [get_chr (by omega)] at h1 h2
  exact h ⟨h0, bt_45.2 (Option.some.inj h1), bt_45.2 (Option.some.inj h2)⟩
theorem num_neg {l : List UInt8} {a : Int} (ha : numI l = a) (h : a < 0) : rdA 0 l = none := by
  unfold numI at ha
  cases e : rdA 0 l with
  | none => rfl
  | some n => rw [e] at ha; dsimp only at ha; omega
theorem num_pos {l : List UInt8} {a : Int} (ha : numI l = a) (h : ¬ a < 0) : ∃ n : Nat, rdA 0 l = some n ∧ (n : Int) = a := by
  unfold numI at ha
  cases e : rdA 0 l with
  | none => rw [e] at ha; dsimp only at ha; omega
  | some n => rw [e] at ha; exact ⟨n, rfl, ha⟩
theorem par_three {s : ByteArray} {a b c : Int} (h : s.size = 22 ∧ bt s 11 = 45 ∧ bt s 20 = 45) (ha : numI (s.data.toList.take 11) = a) (hb : numI ((s.data.toList.drop 12).take 8) = b) (hc : numI (s.data.toList.drop 21) = c) :
    ((a < 0 ∨ b < 0 ∨ c < 0) → parR s.data.toList = none) ∧ (¬ a < 0 → ¬ b < 0 → ¬ c < 0 → parR s.data.toList = some (a, b, c)) := by
  obtain ⟨h0, h1, h2⟩ := h
  have hc0 : s.data.toList.length = 22 ∧ s.data.toList[11]? = some 45 ∧ s.data.toList[20]? = some 45 := ⟨by rw [← Lib.size_eq]; exact h0, by rw [get_chr (by omega), bt_45.1 h1], by rw [get_chr (by omega), bt_45.1 h2]⟩
  unfold parR
  rw [if_pos hc0]
  constructor
  · rintro (k | k | k)
    · rw [num_neg ha k]; rfl
    · rw [num_neg hb k]
      cases rdA 0 (s.data.toList.take 11) <;> rfl
    · rw [num_neg hc k]
      cases rdA 0 (s.data.toList.take 11) <;> cases rdA 0 ((s.data.toList.drop 12).take 8) <;> rfl
  · intro k1 k2 k3
    obtain ⟨x, e1, rfl⟩ := num_pos ha k1
    obtain ⟨y, e2, rfl⟩ := num_pos hb k2
    obtain ⟨z, e3, rfl⟩ := num_pos hc k3
    rw [e1, e2, e3]
    rfl
theorem ext_list (s : ByteArray) (a b : Nat) : (s.extract a b).data.toList = (s.data.toList.drop a).take (b - a) := by
  simp [ByteArray.data_extract, Array.toList_extract, List.extract]
theorem ext_size (s : ByteArray) (a b : Nat) : (s.extract a b).size ≤ b - a := by
  rw [Lib.size_eq, ext_list, List.length_take]; omega
theorem rnumber_k (s t : ByteArray) (a b : Nat) (x : Int) (w : World) (ht : t = s.extract a b) (hs : b - a ≤ 15) (hx : numI ((s.data.toList.drop a).take (b - a)) = x) :
    Calls Tryd.prog 43 #[.string t] w fun e w' => e = .returned (.int .i64 x) ∧ Below w.heap.size w w' := by
  subst ht
  have := number_s (s.extract a b) w (Nat.le_trans (ext_size s a b) hs)
  rw [ext_list, hx] at this
  exact this
set_option maxHeartbeats 16000000 in
theorem rparse_s (s : ByteArray) (w : World) (hs : s.size ≤ 1000000) :
    Calls Tryd.prog 17 #[.string s] w fun e w' => e = .returned (.tuple #[cnV (parVC s.data.toList), .int .i64 (parEC s.data.toList)]) ∧ Below w.heap.size w w' := by
  have hgb := get_bt s
  have HW := Lib.hid (box_below w (.cells #[.int .i64 0, .int .i64 0, .int .i64 0] 23))
  have HR := Lib.hid (kbc_new w (.cells #[.int .i64 0, .int .i64 0, .int .i64 0] 23))
  have HNo := Lib.hid (fun h => par_none (par_not (s := s) h))
  by_cases h0 : s.size = 22
  · have q0 : ((s.size : Int) != 22) = false := by rw [h0]; rfl
    have hsI : (s.size : Int) = 22 := by rw [h0]; rfl
    by_cases h1 : bt s 11 = 45
    · have q1 : (bt s 11 != 45) = false := by rw [h1]; rfl
      by_cases h2 : bt s 20 = 45
      · have q2 : (bt s 20 != 45) = false := by rw [h2]; rfl
        obtain ⟨a, ha⟩ : ∃ a, numI (s.data.toList.take 11) = a := ⟨_, rfl⟩
        obtain ⟨b, hb⟩ : ∃ b, numI ((s.data.toList.drop 12).take 8) = b := ⟨_, rfl⟩
        obtain ⟨c, hc⟩ : ∃ c, numI (s.data.toList.drop 21) = c := ⟨_, rfl⟩
        obtain ⟨hp1, hp2⟩ := par_three ⟨h0, h1, h2⟩ ha hb hc
        have HP1 := Lib.hid hp1
        have HP2 := Lib.hid hp2
        have HNa := Lib.hid (fun W => rnumber_k s (s.extract 0 11) 0 11 a W rfl (by omega) ha)
        have HNb := Lib.hid (fun W => rnumber_k s (s.extract 12 20) 12 20 b W rfl (by omega) hb)
        have HNc := Lib.hid (fun W => rnumber_k s (s.extract 21 22) 21 22 c W rfl (by omega) (by rw [List.take_of_length_le (by rw [List.length_drop, ← Lib.size_eq]; omega)]; exact hc))
        clear ha hb hc hp1 hp2 h1 h2 HNo
        go_enter Tryd.func17, Tryd.ntmps17
        go_wp2_with fail
        generalize w.alloc (.cells #[.int .i64 0, .int .i64 0, .int .i64 0] 23) = w1 at HW HR ⊢
        go_cut [4] (fun pv wx => ∃ b4 : Nat, pv = .pointer (some ⟨b4, 0, none⟩) ∧ Hid (Below w1.heap.size w1 wx ∧ KbC wx b4 (.cells #[.int .i64 a, .int .i64 b, .int .i64 c] 23)))
        case first =>
          have S0 : Hid (Below w1.heap.size w1 w1.drew) := Lib.hid (Below.refl _ _).drew
          have HC := S0
          refine wp_region_held_drew (S := fun V => Hid (Below w1.heap.size w1 V)) (by kernel_rfl) (S0) (fun hS => ?_)
          refine wpAnyH_take (i := 0) (oi := { dst := some 19, op := _, type := _, pos := _, after := _, guard := _ }) (v := ?_) rfl (by kernel_rfl) (by kernel_rfl) (by kernel_rfl) (fun _ _ _ h => h) (Or.inl ⟨by rfl, ?_⟩) (by assumption) ?_
          rotate_left
          · intro w hSw
            try dsimp only at hSw
            go_simp
            try with_reducible rfl
          try simp only [Act.put, List.setIfInBounds_toArray, List.set_cons_zero, List.set_cons_succ]
          refine wpAnyH_take (i := 1) (oi := { dst := some 20, op := _, type := _, pos := _, after := _, guard := _ }) (v := ?_) rfl (by kernel_rfl) (by kernel_rfl) (by kernel_rfl) (fun _ _ _ h => h) (Or.inl ⟨by rfl, ?_⟩) (by assumption) ?_
          rotate_left
          · intro w hSw
            try dsimp only at hSw
            go_simp
            try with_reducible rfl
          try simp only [Act.put, List.setIfInBounds_toArray, List.set_cons_zero, List.set_cons_succ]
          refine wpAnyH_take (i := 3) (oi := { dst := some 22, op := _, type := _, pos := _, after := _, guard := _ }) (v := ?_) rfl (by kernel_rfl) (by kernel_rfl) (by kernel_rfl) (fun _ _ _ h => h) (Or.inl ⟨by rfl, ?_⟩) (by assumption) ?_
          rotate_left
          · intro w hSw
            try dsimp only at hSw
            go_simp
            try with_reducible rfl
          try simp only [Act.put, List.setIfInBounds_toArray, List.set_cons_zero, List.set_cons_succ]
          refine wpAnyH_take (i := 4) (oi := { dst := some 23, op := _, type := _, pos := _, after := _, guard := _ }) (v := ?_) rfl (by kernel_rfl) (by kernel_rfl) (by kernel_rfl) (fun _ _ _ h => h) (Or.inl ⟨by rfl, ?_⟩) (by assumption) ?_
          rotate_left
          · intro w hSw
            try dsimp only at hSw
            go_simp
            try with_reducible rfl
          try simp only [Act.put, List.setIfInBounds_toArray, List.set_cons_zero, List.set_cons_succ]
          refine wpAnyH_take (i := 6) (oi := { dst := some 25, op := _, type := _, pos := _, after := _, guard := _ }) (v := ?_) rfl (by kernel_rfl) (by kernel_rfl) (by kernel_rfl) (fun _ _ _ h => h) (Or.inl ⟨by rfl, ?_⟩) (by assumption) ?_
          rotate_left
          · intro w hSw
            try dsimp only at hSw
            go_simp
            try with_reducible rfl
          try simp only [Act.put, List.setIfInBounds_toArray, List.set_cons_zero, List.set_cons_succ]
          refine wpAnyH_take (i := 7) (oi := { dst := some 26, op := _, type := _, pos := _, after := _, guard := _ }) (v := ?_) rfl (by kernel_rfl) (by kernel_rfl) (by kernel_rfl) (fun _ _ _ h => h) (Or.inl ⟨by rfl, ?_⟩) (by assumption) ?_
          rotate_left
          · intro w hSw
            try dsimp only at hSw
            go_simp
            try with_reducible rfl
          try simp only [Act.put, List.setIfInBounds_toArray, List.set_cons_zero, List.set_cons_succ]
          refine wpAnyH_ready (rs := [2, 10]) (by kernel_rfl) (by simp) ?_
          refine AllReadyH.cons rfl (fun K hK => ?_) (AllReadyH.cons rfl (fun K hK => ?_) AllReadyH.nil)
          · go_simp
            refine (HNa.out _).mono ?_
            rintro _ v1 ⟨rfl, hb⟩
            have HC := Lib.hid (HC.out.trans (hb.mono HC.out.size))
            first | have HZ := Lib.hid (HZ.out.step hb) | skip
            clear hb
            go_wp2_with fail
            refine hK.out _ _ ?_ (fun hHeld => ?_)
            · exact HC
            clear hK K
            try simp only [Act.put, List.setIfInBounds_toArray, List.set_cons_zero, List.set_cons_succ]
            refine wpAnyH_ready (rs := [5, 10]) (by kernel_rfl) (by simp) ?_
            refine AllReadyH.cons rfl (fun K hK => ?_) (AllReadyH.cons rfl (fun K hK => ?_) AllReadyH.nil)
            · go_simp
              refine (HNb.out _).mono ?_
              rintro _ v2 ⟨rfl, hb⟩
              have HC := Lib.hid (HC.out.trans (hb.mono HC.out.size))
              first | have HZ := Lib.hid (HZ.out.step hb) | skip
              clear hb
              go_wp2_with fail
              refine hK.out _ _ ?_ (fun hHeld => ?_)
              · exact HC
              clear hK K
              try simp only [Act.put, List.setIfInBounds_toArray, List.set_cons_zero, List.set_cons_succ]
              refine wpAnyH_ready (rs := [8, 10]) (by kernel_rfl) (by simp) ?_
              refine AllReadyH.cons rfl (fun K hK => ?_) (AllReadyH.cons rfl (fun K hK => ?_) AllReadyH.nil)
              · go_simp
                refine (HNc.out _).mono ?_
                rintro _ v3 ⟨rfl, hb⟩
                have HC := Lib.hid (HC.out.trans (hb.mono HC.out.size))
                first | (have HZ := Lib.hid (HZ.out.step hb); have gf := fun j => HZ.out.frz (i := j); have z0 := HZ.out.cell (i := 0) (v := .int .i64 0) rfl; have z1 := HZ.out.cell (i := 1) (v := .int .i64 0) rfl; have z2 := HZ.out.cell (i := 2) (v := .int .i64 0) rfl) | skip
                clear hb
                go_wp2_with fail
                refine hK.out _ _ ?_ (fun hHeld => ?_)
                · exact HC
                clear hK K
                try simp only [Act.put, List.setIfInBounds_toArray, List.set_cons_zero, List.set_cons_succ]
                refine wpAnyH_take (i := 9) (oi := { dst := some 28, op := _, type := _, pos := _, after := _, guard := _ }) (v := ?_) rfl (by kernel_rfl) (by kernel_rfl) (by kernel_rfl) (fun _ _ _ h => h) (Or.inl ⟨by rfl, ?_⟩) (by assumption) ?_
                rotate_left
                · intro w hSw
                  try dsimp only at hSw
                  go_simp
                  try with_reducible rfl
                try simp only [Act.put, List.setIfInBounds_toArray, List.set_cons_zero, List.set_cons_succ]
                refine wpAnyH_ready (rs := [10]) (by kernel_rfl) (by simp) ?_
                refine AllReadyH.cons rfl (fun K hK => ?_) AllReadyH.nil
                go_simp
                refine hK.out _ _ ?_ (fun hHeld => ?_)
                · exact Lib.hid (HC.out.alloc HC.out.size _)
                clear hK K
                have HD := HC
                have HC := hHeld
                first | have HZ := Lib.hid (kbc_of hHeld.out) | have HZ : Hid (KbC (w1.alloc (.cells #[.int .i64 0, .int .i64 0, .int .i64 0] 23)).drew w1.heap.size (.cells #[.int .i64 0, .int .i64 0, .int .i64 0] 23)) := Lib.hid (kbc_new w1.drew _)
                try simp only [Act.put, List.setIfInBounds_toArray, List.set_cons_zero, List.set_cons_succ]
                refine wpAnyH_ready (rs := [11]) (by kernel_rfl) (by simp) ?_
                refine AllReadyH.cons rfl (fun K hK => ?_) AllReadyH.nil
                go_simp
                refine hK.out _ _ ?_ (fun hHeld => ?_)
                · first | exact Lib.hid (HD.out.alloc HD.out.size _) | exact Lib.hid (((HC.out.setCell HD.out.size _).setCell HD.out.size _).setCell HD.out.size _)
                clear hK K
                first | have HB9 := Lib.hid (kbc_of hHeld.out) | have HB9 := Lib.hid (HZ.out.set3 (u := .int .i64 a) (v := .int .i64 b) (q := .int .i64 c))
                try simp only [Act.put, List.setIfInBounds_toArray, List.set_cons_zero, List.set_cons_succ]
                refine wpAnyH_done (by kernel_rfl) ?_ _
                go_wp2_with fail
                go_meet
                exact ⟨_, rfl, Lib.hid ⟨hHeld.out, HB9.out⟩⟩
              · go_simp
                refine hK.out _ _ ?_ (fun hHeld => ?_)
                · exact Lib.hid (HC.out.alloc HC.out.size _)
                clear hK K
                have HD := HC
                have HC := hHeld
                first | have HZ := Lib.hid (kbc_of hHeld.out) | have HZ : Hid (KbC (w1.alloc (.cells #[.int .i64 0, .int .i64 0, .int .i64 0] 23)).drew w1.heap.size (.cells #[.int .i64 0, .int .i64 0, .int .i64 0] 23)) := Lib.hid (kbc_new w1.drew _)
                try simp only [Act.put, List.setIfInBounds_toArray, List.set_cons_zero, List.set_cons_succ]
                refine wpAnyH_ready (rs := [8]) (by kernel_rfl) (by simp) ?_
                refine AllReadyH.cons rfl (fun K hK => ?_) AllReadyH.nil
                go_simp
                refine (HNc.out _).mono ?_
                rintro _ v3 ⟨rfl, hb⟩
                have HC := Lib.hid (HC.out.trans (hb.mono HC.out.size))
                first | (have HZ := Lib.hid (HZ.out.step hb); have gf := fun j => HZ.out.frz (i := j); have z0 := HZ.out.cell (i := 0) (v := .int .i64 0) rfl; have z1 := HZ.out.cell (i := 1) (v := .int .i64 0) rfl; have z2 := HZ.out.cell (i := 2) (v := .int .i64 0) rfl) | skip
                clear hb
                go_wp2_with fail
                refine hK.out _ _ ?_ (fun hHeld => ?_)
                · exact HC
                clear hK K
                try simp only [Act.put, List.setIfInBounds_toArray, List.set_cons_zero, List.set_cons_succ]
                refine wpAnyH_take (i := 9) (oi := { dst := some 28, op := _, type := _, pos := _, after := _, guard := _ }) (v := ?_) rfl (by kernel_rfl) (by kernel_rfl) (by kernel_rfl) (fun _ _ _ h => h) (Or.inl ⟨by rfl, ?_⟩) (by assumption) ?_
                rotate_left
                · intro w hSw
                  try dsimp only at hSw
                  go_simp
                  try with_reducible rfl
                try simp only [Act.put, List.setIfInBounds_toArray, List.set_cons_zero, List.set_cons_succ]
                refine wpAnyH_ready (rs := [11]) (by kernel_rfl) (by simp) ?_
                refine AllReadyH.cons rfl (fun K hK => ?_) AllReadyH.nil
                go_simp
                refine hK.out _ _ ?_ (fun hHeld => ?_)
                · first | exact Lib.hid (HD.out.alloc HD.out.size _) | exact Lib.hid (((HC.out.setCell HD.out.size _).setCell HD.out.size _).setCell HD.out.size _)
                clear hK K
                first | have HB9 := Lib.hid (kbc_of hHeld.out) | have HB9 := Lib.hid (HZ.out.set3 (u := .int .i64 a) (v := .int .i64 b) (q := .int .i64 c))
                try simp only [Act.put, List.setIfInBounds_toArray, List.set_cons_zero, List.set_cons_succ]
                refine wpAnyH_done (by kernel_rfl) ?_ _
                go_wp2_with fail
                go_meet
                exact ⟨_, rfl, Lib.hid ⟨hHeld.out, HB9.out⟩⟩
            · go_simp
              refine hK.out _ _ ?_ (fun hHeld => ?_)
              · exact Lib.hid (HC.out.alloc HC.out.size _)
              clear hK K
              have HD := HC
              have HC := hHeld
              first | have HZ := Lib.hid (kbc_of hHeld.out) | have HZ : Hid (KbC (w1.alloc (.cells #[.int .i64 0, .int .i64 0, .int .i64 0] 23)).drew w1.heap.size (.cells #[.int .i64 0, .int .i64 0, .int .i64 0] 23)) := Lib.hid (kbc_new w1.drew _)
              try simp only [Act.put, List.setIfInBounds_toArray, List.set_cons_zero, List.set_cons_succ]
              refine wpAnyH_ready (rs := [5]) (by kernel_rfl) (by simp) ?_
              refine AllReadyH.cons rfl (fun K hK => ?_) AllReadyH.nil
              go_simp
              refine (HNb.out _).mono ?_
              rintro _ v2 ⟨rfl, hb⟩
              have HC := Lib.hid (HC.out.trans (hb.mono HC.out.size))
              first | have HZ := Lib.hid (HZ.out.step hb) | skip
              clear hb
              go_wp2_with fail
              refine hK.out _ _ ?_ (fun hHeld => ?_)
              · exact HC
              clear hK K
              try simp only [Act.put, List.setIfInBounds_toArray, List.set_cons_zero, List.set_cons_succ]
              refine wpAnyH_ready (rs := [8]) (by kernel_rfl) (by simp) ?_
              refine AllReadyH.cons rfl (fun K hK => ?_) AllReadyH.nil
              go_simp
              refine (HNc.out _).mono ?_
              rintro _ v3 ⟨rfl, hb⟩
              have HC := Lib.hid (HC.out.trans (hb.mono HC.out.size))
              first | (have HZ := Lib.hid (HZ.out.step hb); have gf := fun j => HZ.out.frz (i := j); have z0 := HZ.out.cell (i := 0) (v := .int .i64 0) rfl; have z1 := HZ.out.cell (i := 1) (v := .int .i64 0) rfl; have z2 := HZ.out.cell (i := 2) (v := .int .i64 0) rfl) | skip
              clear hb
              go_wp2_with fail
              refine hK.out _ _ ?_ (fun hHeld => ?_)
              · exact HC
              clear hK K
              try simp only [Act.put, List.setIfInBounds_toArray, List.set_cons_zero, List.set_cons_succ]
              refine wpAnyH_take (i := 9) (oi := { dst := some 28, op := _, type := _, pos := _, after := _, guard := _ }) (v := ?_) rfl (by kernel_rfl) (by kernel_rfl) (by kernel_rfl) (fun _ _ _ h => h) (Or.inl ⟨by rfl, ?_⟩) (by assumption) ?_
              rotate_left
              · intro w hSw
                try dsimp only at hSw
                go_simp
                try with_reducible rfl
              try simp only [Act.put, List.setIfInBounds_toArray, List.set_cons_zero, List.set_cons_succ]
              refine wpAnyH_ready (rs := [11]) (by kernel_rfl) (by simp) ?_
              refine AllReadyH.cons rfl (fun K hK => ?_) AllReadyH.nil
              go_simp
              refine hK.out _ _ ?_ (fun hHeld => ?_)
              · first | exact Lib.hid (HD.out.alloc HD.out.size _) | exact Lib.hid (((HC.out.setCell HD.out.size _).setCell HD.out.size _).setCell HD.out.size _)
              clear hK K
              first | have HB9 := Lib.hid (kbc_of hHeld.out) | have HB9 := Lib.hid (HZ.out.set3 (u := .int .i64 a) (v := .int .i64 b) (q := .int .i64 c))
              try simp only [Act.put, List.setIfInBounds_toArray, List.set_cons_zero, List.set_cons_succ]
              refine wpAnyH_done (by kernel_rfl) ?_ _
              go_wp2_with fail
              go_meet
              exact ⟨_, rfl, Lib.hid ⟨hHeld.out, HB9.out⟩⟩
          · go_simp
            refine hK.out _ _ ?_ (fun hHeld => ?_)
            · exact Lib.hid (HC.out.alloc HC.out.size _)
            clear hK K
            have HD := HC
            have HC := hHeld
            first | have HZ := Lib.hid (kbc_of hHeld.out) | have HZ : Hid (KbC (w1.alloc (.cells #[.int .i64 0, .int .i64 0, .int .i64 0] 23)).drew w1.heap.size (.cells #[.int .i64 0, .int .i64 0, .int .i64 0] 23)) := Lib.hid (kbc_new w1.drew _)
            try simp only [Act.put, List.setIfInBounds_toArray, List.set_cons_zero, List.set_cons_succ]
            refine wpAnyH_ready (rs := [2]) (by kernel_rfl) (by simp) ?_
            refine AllReadyH.cons rfl (fun K hK => ?_) AllReadyH.nil
            go_simp
            refine (HNa.out _).mono ?_
            rintro _ v1 ⟨rfl, hb⟩
            have HC := Lib.hid (HC.out.trans (hb.mono HC.out.size))
            first | have HZ := Lib.hid (HZ.out.step hb) | skip
            clear hb
            go_wp2_with fail
            refine hK.out _ _ ?_ (fun hHeld => ?_)
            · exact HC
            clear hK K
            try simp only [Act.put, List.setIfInBounds_toArray, List.set_cons_zero, List.set_cons_succ]
            refine wpAnyH_ready (rs := [5]) (by kernel_rfl) (by simp) ?_
            refine AllReadyH.cons rfl (fun K hK => ?_) AllReadyH.nil
            go_simp
            refine (HNb.out _).mono ?_
            rintro _ v2 ⟨rfl, hb⟩
            have HC := Lib.hid (HC.out.trans (hb.mono HC.out.size))
            first | have HZ := Lib.hid (HZ.out.step hb) | skip
            clear hb
            go_wp2_with fail
            refine hK.out _ _ ?_ (fun hHeld => ?_)
            · exact HC
            clear hK K
            try simp only [Act.put, List.setIfInBounds_toArray, List.set_cons_zero, List.set_cons_succ]
            refine wpAnyH_ready (rs := [8]) (by kernel_rfl) (by simp) ?_
            refine AllReadyH.cons rfl (fun K hK => ?_) AllReadyH.nil
            go_simp
            refine (HNc.out _).mono ?_
            rintro _ v3 ⟨rfl, hb⟩
            have HC := Lib.hid (HC.out.trans (hb.mono HC.out.size))
            first | (have HZ := Lib.hid (HZ.out.step hb); have gf := fun j => HZ.out.frz (i := j); have z0 := HZ.out.cell (i := 0) (v := .int .i64 0) rfl; have z1 := HZ.out.cell (i := 1) (v := .int .i64 0) rfl; have z2 := HZ.out.cell (i := 2) (v := .int .i64 0) rfl) | skip
            clear hb
            go_wp2_with fail
            refine hK.out _ _ ?_ (fun hHeld => ?_)
            · exact HC
            clear hK K
            try simp only [Act.put, List.setIfInBounds_toArray, List.set_cons_zero, List.set_cons_succ]
            refine wpAnyH_take (i := 9) (oi := { dst := some 28, op := _, type := _, pos := _, after := _, guard := _ }) (v := ?_) rfl (by kernel_rfl) (by kernel_rfl) (by kernel_rfl) (fun _ _ _ h => h) (Or.inl ⟨by rfl, ?_⟩) (by assumption) ?_
            rotate_left
            · intro w hSw
              try dsimp only at hSw
              go_simp
              try with_reducible rfl
            try simp only [Act.put, List.setIfInBounds_toArray, List.set_cons_zero, List.set_cons_succ]
            refine wpAnyH_ready (rs := [11]) (by kernel_rfl) (by simp) ?_
            refine AllReadyH.cons rfl (fun K hK => ?_) AllReadyH.nil
            go_simp
            refine hK.out _ _ ?_ (fun hHeld => ?_)
            · first | exact Lib.hid (HD.out.alloc HD.out.size _) | exact Lib.hid (((HC.out.setCell HD.out.size _).setCell HD.out.size _).setCell HD.out.size _)
            clear hK K
            first | have HB9 := Lib.hid (kbc_of hHeld.out) | have HB9 := Lib.hid (HZ.out.set3 (u := .int .i64 a) (v := .int .i64 b) (q := .int .i64 c))
            try simp only [Act.put, List.setIfInBounds_toArray, List.set_cons_zero, List.set_cons_succ]
            refine wpAnyH_done (by kernel_rfl) ?_ _
            go_wp2_with fail
            go_meet
            exact ⟨_, rfl, Lib.hid ⟨hHeld.out, HB9.out⟩⟩
        case rest =>
          obtain ⟨b4, rfl, HCC⟩ := hcut
          have HRc := Lib.hid (HR.out.step HCC.out.1)
          have HL := Lib.hid (HW.out.trans (HCC.out.1.mono HW.out.size))
          have HK := Lib.hid HCC.out.2
          clear HNa HNb HNc HCC HW HR
          have l0 : wc.cell? ⟨b4, 0, none⟩ = some (.int .i64 a) := HK.out.cell rfl
          have l1 : wc.cell? ⟨b4, 1, none⟩ = some (.int .i64 b) := HK.out.cell rfl
          have l2 : wc.cell? ⟨b4, 2, none⟩ = some (.int .i64 c) := HK.out.cell rfl
          by_cases a0 : a < 0
          · have HF := Lib.hid (par_none (HP1.out (.inl a0)))
            have k0 : decide (a < 0) = true := decide_eq_true a0
            have y0 : wc.cell? ⟨w.heap.size, 0, none⟩ = some (.int .i64 0) := HRc.out.cell rfl
            have y1 : wc.cell? ⟨w.heap.size, 1, none⟩ = some (.int .i64 0) := HRc.out.cell rfl
            have y2 : wc.cell? ⟨w.heap.size, 2, none⟩ = some (.int .i64 0) := HRc.out.cell rfl
            have gf : ∀ j, wc.frozen? ⟨w.heap.size, j, none⟩ = false := fun j => HRc.out.frz
            have x0 : (((wc.setCell ⟨w.heap.size, 0, none⟩ (.int .i64 0)).setCell ⟨w.heap.size, 1, none⟩ (.int .i64 0)).setCell ⟨w.heap.size, 2, none⟩ (.int .i64 0)).cell? ⟨w.heap.size, 0, none⟩ = some (.int .i64 0) := (HRc.out.set3).cell rfl
            have x1 : (((wc.setCell ⟨w.heap.size, 0, none⟩ (.int .i64 0)).setCell ⟨w.heap.size, 1, none⟩ (.int .i64 0)).setCell ⟨w.heap.size, 2, none⟩ (.int .i64 0)).cell? ⟨w.heap.size, 1, none⟩ = some (.int .i64 0) := (HRc.out.set3).cell rfl
            have x2 : (((wc.setCell ⟨w.heap.size, 0, none⟩ (.int .i64 0)).setCell ⟨w.heap.size, 1, none⟩ (.int .i64 0)).setCell ⟨w.heap.size, 2, none⟩ (.int .i64 0)).cell? ⟨w.heap.size, 2, none⟩ = some (.int .i64 0) := (HRc.out.set3).cell rfl
            go_wp2_with fail
            refine bodyPost_ret (v := .tuple #[.agg #[.int .i64 0, .int .i64 0, .int .i64 0], .int .i64 4]) (by simp [results, Tryd.results17, go_sem, x0, x1, x2]) rfl ⟨by rw [HF.out.1, HF.out.2]; rfl, ?_⟩
            exact ((HL.out.setCell (p := ⟨w.heap.size, 0, none⟩) (Nat.le_refl _) _).setCell (p := ⟨w.heap.size, 1, none⟩) (Nat.le_refl _) _).setCell (p := ⟨w.heap.size, 2, none⟩) (Nat.le_refl _) _
          · have k0 : decide (a < 0) = false := decide_eq_false a0
            by_cases b0 : b < 0
            · have HF := Lib.hid (par_none (HP1.out (.inr (.inl b0))))
              have k1 : decide (b < 0) = true := decide_eq_true b0
              have y0 : wc.cell? ⟨w.heap.size, 0, none⟩ = some (.int .i64 0) := HRc.out.cell rfl
              have y1 : wc.cell? ⟨w.heap.size, 1, none⟩ = some (.int .i64 0) := HRc.out.cell rfl
              have y2 : wc.cell? ⟨w.heap.size, 2, none⟩ = some (.int .i64 0) := HRc.out.cell rfl
              have gf : ∀ j, wc.frozen? ⟨w.heap.size, j, none⟩ = false := fun j => HRc.out.frz
              have x0 : (((wc.setCell ⟨w.heap.size, 0, none⟩ (.int .i64 0)).setCell ⟨w.heap.size, 1, none⟩ (.int .i64 0)).setCell ⟨w.heap.size, 2, none⟩ (.int .i64 0)).cell? ⟨w.heap.size, 0, none⟩ = some (.int .i64 0) := (HRc.out.set3).cell rfl
              have x1 : (((wc.setCell ⟨w.heap.size, 0, none⟩ (.int .i64 0)).setCell ⟨w.heap.size, 1, none⟩ (.int .i64 0)).setCell ⟨w.heap.size, 2, none⟩ (.int .i64 0)).cell? ⟨w.heap.size, 1, none⟩ = some (.int .i64 0) := (HRc.out.set3).cell rfl
              have x2 : (((wc.setCell ⟨w.heap.size, 0, none⟩ (.int .i64 0)).setCell ⟨w.heap.size, 1, none⟩ (.int .i64 0)).setCell ⟨w.heap.size, 2, none⟩ (.int .i64 0)).cell? ⟨w.heap.size, 2, none⟩ = some (.int .i64 0) := (HRc.out.set3).cell rfl
              go_wp2_with fail
              refine bodyPost_ret (v := .tuple #[.agg #[.int .i64 0, .int .i64 0, .int .i64 0], .int .i64 4]) (by simp [results, Tryd.results17, go_sem, x0, x1, x2]) rfl ⟨by rw [HF.out.1, HF.out.2]; rfl, ?_⟩
              exact ((HL.out.setCell (p := ⟨w.heap.size, 0, none⟩) (Nat.le_refl _) _).setCell (p := ⟨w.heap.size, 1, none⟩) (Nat.le_refl _) _).setCell (p := ⟨w.heap.size, 2, none⟩) (Nat.le_refl _) _
            · have k1 : decide (b < 0) = false := decide_eq_false b0
              by_cases c0 : c < 0
              · have HF := Lib.hid (par_none (HP1.out (.inr (.inr c0))))
                have k2 : decide (c < 0) = true := decide_eq_true c0
                have y0 : wc.cell? ⟨w.heap.size, 0, none⟩ = some (.int .i64 0) := HRc.out.cell rfl
                have y1 : wc.cell? ⟨w.heap.size, 1, none⟩ = some (.int .i64 0) := HRc.out.cell rfl
                have y2 : wc.cell? ⟨w.heap.size, 2, none⟩ = some (.int .i64 0) := HRc.out.cell rfl
                have gf : ∀ j, wc.frozen? ⟨w.heap.size, j, none⟩ = false := fun j => HRc.out.frz
                have x0 : (((wc.setCell ⟨w.heap.size, 0, none⟩ (.int .i64 0)).setCell ⟨w.heap.size, 1, none⟩ (.int .i64 0)).setCell ⟨w.heap.size, 2, none⟩ (.int .i64 0)).cell? ⟨w.heap.size, 0, none⟩ = some (.int .i64 0) := (HRc.out.set3).cell rfl
                have x1 : (((wc.setCell ⟨w.heap.size, 0, none⟩ (.int .i64 0)).setCell ⟨w.heap.size, 1, none⟩ (.int .i64 0)).setCell ⟨w.heap.size, 2, none⟩ (.int .i64 0)).cell? ⟨w.heap.size, 1, none⟩ = some (.int .i64 0) := (HRc.out.set3).cell rfl
                have x2 : (((wc.setCell ⟨w.heap.size, 0, none⟩ (.int .i64 0)).setCell ⟨w.heap.size, 1, none⟩ (.int .i64 0)).setCell ⟨w.heap.size, 2, none⟩ (.int .i64 0)).cell? ⟨w.heap.size, 2, none⟩ = some (.int .i64 0) := (HRc.out.set3).cell rfl
                go_wp2_with fail
                refine bodyPost_ret (v := .tuple #[.agg #[.int .i64 0, .int .i64 0, .int .i64 0], .int .i64 4]) (by simp [results, Tryd.results17, go_sem, x0, x1, x2]) rfl ⟨by rw [HF.out.1, HF.out.2]; rfl, ?_⟩
                exact ((HL.out.setCell (p := ⟨w.heap.size, 0, none⟩) (Nat.le_refl _) _).setCell (p := ⟨w.heap.size, 1, none⟩) (Nat.le_refl _) _).setCell (p := ⟨w.heap.size, 2, none⟩) (Nat.le_refl _) _
              · have k2 : decide (c < 0) = false := decide_eq_false c0
                have HS := Lib.hid (HP2.out (by omega) (by omega) (by omega))
                have hv1 := rvld_k (a, b, c)
                dsimp only at hv1
                cases hv : vldC (a, b, c)
                · have HF := Lib.hid (par_bad HS.out (fun k => by rw [(vldC_iff _).2 k] at hv; cases hv))
                  go_wp2_with fail
                  refine (hv1 _ _ hv).mono ?_
                  rintro e w' ⟨rfl, rfl⟩
                  have hbx := box_below wc (.cells #[.int .i64 a, .int .i64 b, .int .i64 c] 23)
                  have HRc := Lib.hid (HRc.out.step hbx)
                  have HL := Lib.hid (HL.out.trans (hbx.mono HL.out.size))
                  have HK := Lib.hid (HK.out.step hbx)
                  clear hbx l0 l1 l2
                  generalize wc.alloc (.cells #[.int .i64 a, .int .i64 b, .int .i64 c] 23) = wd at HRc HL HK ⊢
                  have l0 : wd.cell? ⟨b4, 0, none⟩ = some (.int .i64 a) := HK.out.cell rfl
                  have l1 : wd.cell? ⟨b4, 1, none⟩ = some (.int .i64 b) := HK.out.cell rfl
                  have l2 : wd.cell? ⟨b4, 2, none⟩ = some (.int .i64 c) := HK.out.cell rfl
                  have y0 : wd.cell? ⟨w.heap.size, 0, none⟩ = some (.int .i64 0) := HRc.out.cell rfl
                  have y1 : wd.cell? ⟨w.heap.size, 1, none⟩ = some (.int .i64 0) := HRc.out.cell rfl
                  have y2 : wd.cell? ⟨w.heap.size, 2, none⟩ = some (.int .i64 0) := HRc.out.cell rfl
                  have gf : ∀ j, wd.frozen? ⟨w.heap.size, j, none⟩ = false := fun j => HRc.out.frz
                  have x0 : (((wd.setCell ⟨w.heap.size, 0, none⟩ (.int .i64 0)).setCell ⟨w.heap.size, 1, none⟩ (.int .i64 0)).setCell ⟨w.heap.size, 2, none⟩ (.int .i64 0)).cell? ⟨w.heap.size, 0, none⟩ = some (.int .i64 0) := (HRc.out.set3).cell rfl
                  have x1 : (((wd.setCell ⟨w.heap.size, 0, none⟩ (.int .i64 0)).setCell ⟨w.heap.size, 1, none⟩ (.int .i64 0)).setCell ⟨w.heap.size, 2, none⟩ (.int .i64 0)).cell? ⟨w.heap.size, 1, none⟩ = some (.int .i64 0) := (HRc.out.set3).cell rfl
                  have x2 : (((wd.setCell ⟨w.heap.size, 0, none⟩ (.int .i64 0)).setCell ⟨w.heap.size, 1, none⟩ (.int .i64 0)).setCell ⟨w.heap.size, 2, none⟩ (.int .i64 0)).cell? ⟨w.heap.size, 2, none⟩ = some (.int .i64 0) := (HRc.out.set3).cell rfl
                  go_wp2_with fail
                  refine bodyPost_ret (v := .tuple #[.agg #[.int .i64 0, .int .i64 0, .int .i64 0], .int .i64 27]) (by simp [results, Tryd.results17, go_sem, x0, x1, x2]) rfl ⟨by rw [HF.out.1, HF.out.2]; rfl, ?_⟩
                  exact ((HL.out.setCell (p := ⟨w.heap.size, 0, none⟩) (Nat.le_refl _) _).setCell (p := ⟨w.heap.size, 1, none⟩) (Nat.le_refl _) _).setCell (p := ⟨w.heap.size, 2, none⟩) (Nat.le_refl _) _
                · have HF := Lib.hid (par_good HS.out ((vldC_iff _).1 hv))
                  go_wp2_with fail
                  refine (hv1 _ _ hv).mono ?_
                  rintro e w' ⟨rfl, rfl⟩
                  have hbx := box_below wc (.cells #[.int .i64 a, .int .i64 b, .int .i64 c] 23)
                  have HRc := Lib.hid (HRc.out.step hbx)
                  have HL := Lib.hid (HL.out.trans (hbx.mono HL.out.size))
                  have HK := Lib.hid (HK.out.step hbx)
                  clear hbx l0 l1 l2
                  generalize wc.alloc (.cells #[.int .i64 a, .int .i64 b, .int .i64 c] 23) = wd at HRc HL HK ⊢
                  have l0 : wd.cell? ⟨b4, 0, none⟩ = some (.int .i64 a) := HK.out.cell rfl
                  have l1 : wd.cell? ⟨b4, 1, none⟩ = some (.int .i64 b) := HK.out.cell rfl
                  have l2 : wd.cell? ⟨b4, 2, none⟩ = some (.int .i64 c) := HK.out.cell rfl
                  have y0 : wd.cell? ⟨w.heap.size, 0, none⟩ = some (.int .i64 0) := HRc.out.cell rfl
                  have y1 : wd.cell? ⟨w.heap.size, 1, none⟩ = some (.int .i64 0) := HRc.out.cell rfl
                  have y2 : wd.cell? ⟨w.heap.size, 2, none⟩ = some (.int .i64 0) := HRc.out.cell rfl
                  have gf : ∀ j, wd.frozen? ⟨w.heap.size, j, none⟩ = false := fun j => HRc.out.frz
                  have x0 : (((wd.setCell ⟨w.heap.size, 0, none⟩ (.int .i64 a)).setCell ⟨w.heap.size, 1, none⟩ (.int .i64 b)).setCell ⟨w.heap.size, 2, none⟩ (.int .i64 c)).cell? ⟨w.heap.size, 0, none⟩ = some (.int .i64 a) := (HRc.out.set3).cell rfl
                  have x1 : (((wd.setCell ⟨w.heap.size, 0, none⟩ (.int .i64 a)).setCell ⟨w.heap.size, 1, none⟩ (.int .i64 b)).setCell ⟨w.heap.size, 2, none⟩ (.int .i64 c)).cell? ⟨w.heap.size, 1, none⟩ = some (.int .i64 b) := (HRc.out.set3).cell rfl
                  have x2 : (((wd.setCell ⟨w.heap.size, 0, none⟩ (.int .i64 a)).setCell ⟨w.heap.size, 1, none⟩ (.int .i64 b)).setCell ⟨w.heap.size, 2, none⟩ (.int .i64 c)).cell? ⟨w.heap.size, 2, none⟩ = some (.int .i64 c) := (HRc.out.set3).cell rfl
                  go_wp2_with fail
                  refine bodyPost_ret (v := .tuple #[.agg #[.int .i64 a, .int .i64 b, .int .i64 c], .int .i64 0]) (by simp [results, Tryd.results17, go_sem, x0, x1, x2]) rfl ⟨by rw [HF.out.1, HF.out.2]; rfl, ?_⟩
                  exact ((HL.out.setCell (p := ⟨w.heap.size, 0, none⟩) (Nat.le_refl _) _).setCell (p := ⟨w.heap.size, 1, none⟩) (Nat.le_refl _) _).setCell (p := ⟨w.heap.size, 2, none⟩) (Nat.le_refl _) _
      · have HF := Lib.hid (HNo.out (fun h => h2 h.2.2))
        have q2 : (bt s 20 != 45) = true := bne_iff_ne.2 h2
        go_enter Tryd.func17, Tryd.ntmps17
        go_wp2_with fail
        refine bodyPost_ret (v := .tuple #[.agg #[.int .i64 0, .int .i64 0, .int .i64 0], .int .i64 4]) (by simp [results, Tryd.results17, go_sem]) rfl ⟨by rw [HF.out.1, HF.out.2]; rfl, ?_⟩
        first | exact HW.out | exact ((HW.out.setCell (p := ⟨w.heap.size, 0, none⟩) (Nat.le_refl _) _).setCell (p := ⟨w.heap.size, 1, none⟩) (Nat.le_refl _) _).setCell (p := ⟨w.heap.size, 2, none⟩) (Nat.le_refl _) _
    · have HF := Lib.hid (HNo.out (fun h => h1 h.2.1))
      have q1 : (bt s 11 != 45) = true := bne_iff_ne.2 h1
      go_enter Tryd.func17, Tryd.ntmps17
      go_wp2_with fail
      refine bodyPost_ret (v := .tuple #[.agg #[.int .i64 0, .int .i64 0, .int .i64 0], .int .i64 4]) (by simp [results, Tryd.results17, go_sem]) rfl ⟨by rw [HF.out.1, HF.out.2]; rfl, ?_⟩
      first | exact HW.out | exact ((HW.out.setCell (p := ⟨w.heap.size, 0, none⟩) (Nat.le_refl _) _).setCell (p := ⟨w.heap.size, 1, none⟩) (Nat.le_refl _) _).setCell (p := ⟨w.heap.size, 2, none⟩) (Nat.le_refl _) _
  · have HF := Lib.hid (HNo.out (fun h => h0 h.1))
    have q0 : ((s.size : Int) != 22) = true := bne_iff_ne.2 (by omega)
    go_enter Tryd.func17, Tryd.ntmps17
    go_wp2_with fail
    refine bodyPost_ret (v := .tuple #[.agg #[.int .i64 0, .int .i64 0, .int .i64 0], .int .i64 4]) (by simp [results, Tryd.results17, go_sem]) rfl ⟨by rw [HF.out.1, HF.out.2]; rfl, ?_⟩
    first | exact HW.out | exact ((HW.out.setCell (p := ⟨w.heap.size, 0, none⟩) (Nat.le_refl _) _).setCell (p := ⟨w.heap.size, 1, none⟩) (Nat.le_refl _) _).setCell (p := ⟨w.heap.size, 2, none⟩) (Nat.le_refl _) _

end Go.Proofs.YtcnhkoijphfibaaDoor
