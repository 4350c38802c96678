/-
  Texts of the schema layer and of those beneath it, joined: CsnR5, ShelfS, ChgPc. Conditions stand at each contract.
-/
import Derived.Lib.SplitLaws
import Derived.Test.YtbkignlbcneddaaGreatDoorX01
import Derived.Test.YtbkignlbcneddaaGreatDoorX02
import Derived.Test.YtbkignlbcneddaaGreatDoorX03
import Derived.Test.YtbkignlbcneddaaGreatDoorX05
import Derived.Test.YtbkignlbcneddaaGreatDoorX08
import Derived.Test.YtbkignlbcneddaaGreatDoorX11
set_option linter.unusedVariables false
set_option linter.unusedSimpArgs false
set_option linter.unnecessarySimpa false

section
/-
  Contract of the specification's Parse. Condition: strings of at most 1000000 bytes.
-/
set_option maxRecDepth 100000
set_option maxRecDepth 100000
namespace Go.Proofs.YtbkignlbcneddaaGreatDoor
namespace Csn
open Go.RowKit Go.PlainAid
theorem get_chr {s : ByteArray} {k : Nat} (h : k < s.size) : s.data.toList[k]? = some (chr s k) := by
  have hl : k < s.data.toList.length := by rw [← Lib.size_eq]; exact h
  unfold chr
  rw [List.getD_eq_getElem?_getD, List.getElem?_eq_getElem hl]
  rfl
theorem bt_45 {s : ByteArray} {k : Nat} : bt s k = 45 ↔ chr s k = 45 := by
  rw [bt_chr]
  constructor
  · intro h; exact UInt8.toNat_inj.1 (by have : (45 : UInt8).toNat = 45 := rfl; omega)
  · intro h; rw [h]; rfl
theorem par_not {s : ByteArray} (h : ¬ (s.size = 22 ∧ bt s 11 = 45 ∧ bt s 20 = 45)) : parR s.data.toList = none := by
  unfold parR
  rw [if_neg]
  rintro ⟨h0, h1, h2⟩
  rw [← Lib.size_eq] at h0
  rw [get_chr (by omega)] at h1 h2
  exact h ⟨h0, bt_45.2 (Option.some.inj h1), bt_45.2 (Option.some.inj h2)⟩
theorem num_neg {l : List UInt8} {a : Int} (ha : numI l = a) (h : a < 0) : rdA 0 l = none := by
  unfold numI at ha
  cases e : rdA 0 l with
  | none => rfl
  | some n => rw [e] at ha; dsimp only at ha; omega
theorem num_pos {l : List UInt8} {a : Int} (ha : numI l = a) (h : ¬ a < 0) : ∃ n : Nat, rdA 0 l = some n ∧ (n : Int) = a := by
  unfold numI at ha
  cases e : rdA 0 l with
  | none => rw [e] at ha; dsimp only at ha; omega
  | some n => rw [e] at ha; exact ⟨n, rfl, ha⟩
theorem par_three {s : ByteArray} {a b c : Int} (h : s.size = 22 ∧ bt s 11 = 45 ∧ bt s 20 = 45) (ha : numI (s.data.toList.take 11) = a) (hb : numI ((s.data.toList.drop 12).take 8) = b) (hc : numI (s.data.toList.drop 21) = c) :
    ((a < 0 ∨ b < 0 ∨ c < 0) → parR s.data.toList = none) ∧ (¬ a < 0 → ¬ b < 0 → ¬ c < 0 → parR s.data.toList = some (a, b, c)) := by
  obtain ⟨h0, h1, h2⟩ := h
  have hc0 : s.data.toList.length = 22 ∧ s.data.toList[11]? = some 45 ∧ s.data.toList[20]? = some 45 := ⟨by rw [← Lib.size_eq]; exact h0, by rw [get_chr (by omega), bt_45.1 h1], by rw [get_chr (by omega), bt_45.1 h2]⟩
  unfold parR
  rw [if_pos hc0]
  constructor
  · rintro (k | k | k)
    · rw [num_neg ha k]; rfl
    · rw [num_neg hb k]
      cases rdA 0 (s.data.toList.take 11) <;> rfl
    · rw [num_neg hc k]
      cases rdA 0 (s.data.toList.take 11) <;> cases rdA 0 ((s.data.toList.drop 12).take 8) <;> rfl
  · intro k1 k2 k3
    obtain ⟨x, e1, rfl⟩ := num_pos ha k1
    obtain ⟨y, e2, rfl⟩ := num_pos hb k2
    obtain ⟨z, e3, rfl⟩ := num_pos hc k3
    rw [e1, e2, e3]
    rfl
theorem ext_list (s : ByteArray) (a b : Nat) : (s.extract a b).data.toList = (s.data.toList.drop a).take (b - a) := by
  simp [ByteArray.data_extract, Array.toList_extract, List.extract]
theorem ext_size (s : ByteArray) (a b : Nat) : (s.extract a b).size ≤ b - a := by
  rw [Lib.size_eq, ext_list, List.length_take]; omega
theorem rnumber_k (s t : ByteArray) (a b : Nat) (x : Int) (w : World) (ht : t = s.extract a b) (hs : b - a ≤ 15) (hx : numI ((s.data.toList.drop a).take (b - a)) = x) :
    Calls Tryz.prog 97 #[.string t] w fun e w' => e = .returned (.int .i64 x) ∧ Below w.heap.size w w' := by
  subst ht
  have := number_s (s.extract a b) w (Nat.le_trans (ext_size s a b) hs)
  rw [ext_list, hx] at this
  exact this
set_option maxHeartbeats 16000000 in
theorem rparse_s (s : ByteArray) (w : World) (hs : s.size ≤ 1000000) :
    Calls Tryz.prog 49 #[.string s] w fun e w' => e = .returned (.tuple #[cnV (parVC s.data.toList), .int .i64 (parEC s.data.toList)]) ∧ Below w.heap.size w w' := by
  have hgb := get_bt s
  have HW := Lib.hid (box_below w (.cells #[.int .i64 0, .int .i64 0, .int .i64 0] 23))
  have HR := Lib.hid (kbc_new w (.cells #[.int .i64 0, .int .i64 0, .int .i64 0] 23))
  have HNo := Lib.hid (fun h => par_none (par_not (s := s) h))
  by_cases h0 : s.size = 22
  · have q0 : ((s.size : Int) != 22) = false := by rw [h0]; rfl
    have hsI : (s.size : Int) = 22 := by rw [h0]; rfl
    by_cases h1 : bt s 11 = 45
    · have q1 : (bt s 11 != 45) = false := by rw [h1]; rfl
      by_cases h2 : bt s 20 = 45
      · have q2 : (bt s 20 != 45) = false := by rw [h2]; rfl
        obtain ⟨a, ha⟩ : ∃ a, numI (s.data.toList.take 11) = a := ⟨_, rfl⟩
        obtain ⟨b, hb⟩ : ∃ b, numI ((s.data.toList.drop 12).take 8) = b := ⟨_, rfl⟩
        obtain ⟨c, hc⟩ : ∃ c, numI (s.data.toList.drop 21) = c := ⟨_, rfl⟩
        obtain ⟨hp1, hp2⟩ := par_three ⟨h0, h1, h2⟩ ha hb hc
        have HP1 := Lib.hid hp1
        have HP2 := Lib.hid hp2
        have HNa := Lib.hid (fun W => rnumber_k s (s.extract 0 11) 0 11 a W rfl (by omega) ha)
        have HNb := Lib.hid (fun W => rnumber_k s (s.extract 12 20) 12 20 b W rfl (by omega) hb)
        have HNc := Lib.hid (fun W => rnumber_k s (s.extract 21 22) 21 22 c W rfl (by omega) (by rw [List.take_of_length_le (by rw [List.length_drop, ← Lib.size_eq]; omega)]; exact hc))
        clear ha hb hc hp1 hp2 h1 h2 HNo
        go_enter Tryz.func49, Tryz.ntmps49
        go_wp2_with fail
        generalize w.alloc (.cells #[.int .i64 0, .int .i64 0, .int .i64 0] 23) = w1 at HW HR ⊢
        go_cut [4] (fun pv wx => ∃ b4 : Nat, pv = .pointer (some ⟨b4, 0, none⟩) ∧ Hid (Below w1.heap.size w1 wx ∧ KbC wx b4 (.cells #[.int .i64 a, .int .i64 b, .int .i64 c] 23)))
        case first =>
          have S0 : Hid (Below w1.heap.size w1 w1.drew) := Lib.hid (Below.refl _ _).drew
          have HC := S0
          refine wp_region_held_drew (S := fun V => Hid (Below w1.heap.size w1 V)) (by kernel_rfl) (S0) (fun hS => ?_)
          refine wpAnyH_take (i := 0) (oi := { dst := some 19, op := _, type := _, pos := _, after := _, guard := _ }) (v := ?_) rfl (by kernel_rfl) (by kernel_rfl) (by kernel_rfl) (fun _ _ _ h => h) (Or.inl ⟨by rfl, ?_⟩) (by assumption) ?_
          rotate_left
          · intro w hSw
            try dsimp only at hSw
            go_simp
            try with_reducible rfl
          try simp only [Act.put, List.setIfInBounds_toArray, List.set_cons_zero, List.set_cons_succ]
          refine wpAnyH_take (i := 1) (oi := { dst := some 20, op := _, type := _, pos := _, after := _, guard := _ }) (v := ?_) rfl (by kernel_rfl) (by kernel_rfl) (by kernel_rfl) (fun _ _ _ h => h) (Or.inl ⟨by rfl, ?_⟩) (by assumption) ?_
          rotate_left
          · intro w hSw
            try dsimp only at hSw
            go_simp
            try with_reducible rfl
          try simp only [Act.put, List.setIfInBounds_toArray, List.set_cons_zero, List.set_cons_succ]
          refine wpAnyH_take (i := 3) (oi := { dst := some 22, op := _, type := _, pos := _, after := _, guard := _ }) (v := ?_) rfl (by kernel_rfl) (by kernel_rfl) (by kernel_rfl) (fun _ _ _ h => h) (Or.inl ⟨by rfl, ?_⟩) (by assumption) ?_
          rotate_left
          · intro w hSw
            try dsimp only at hSw
            go_simp
            try with_reducible rfl
          try simp only [Act.put, List.setIfInBounds_toArray, List.set_cons_zero, List.set_cons_succ]
          refine wpAnyH_take (i := 4) (oi := { dst := some 23, op := _, type := _, pos := _, after := _, guard := _ }) (v := ?_) rfl (by kernel_rfl) (by kernel_rfl) (by kernel_rfl) (fun _ _ _ h => h) (Or.inl ⟨by rfl, ?_⟩) (by assumption) ?_
          rotate_left
          · intro w hSw
            try dsimp only at hSw
            go_simp
            try with_reducible rfl
          try simp only [Act.put, List.setIfInBounds_toArray, List.set_cons_zero, List.set_cons_succ]
          refine wpAnyH_take (i := 6) (oi := { dst := some 25, op := _, type := _, pos := _, after := _, guard := _ }) (v := ?_) rfl (by kernel_rfl) (by kernel_rfl) (by kernel_rfl) (fun _ _ _ h => h) (Or.inl ⟨by rfl, ?_⟩) (by assumption) ?_
          rotate_left
          · intro w hSw
            try dsimp only at hSw
            go_simp
            try with_reducible rfl
          try simp only [Act.put, List.setIfInBounds_toArray, List.set_cons_zero, List.set_cons_succ]
          refine wpAnyH_take (i := 7) (oi := { dst := some 26, op := _, type := _, pos := _, after := _, guard := _ }) (v := ?_) rfl (by kernel_rfl) (by kernel_rfl) (by kernel_rfl) (fun _ _ _ h => h) (Or.inl ⟨by rfl, ?_⟩) (by assumption) ?_
          rotate_left
          · intro w hSw
            try dsimp only at hSw
            go_simp
            try with_reducible rfl
          try simp only [Act.put, List.setIfInBounds_toArray, List.set_cons_zero, List.set_cons_succ]
          refine wpAnyH_ready (rs := [2, 10]) (by kernel_rfl) (by simp) ?_
          refine AllReadyH.cons rfl (fun K hK => ?_) (AllReadyH.cons rfl (fun K hK => ?_) AllReadyH.nil)
          · go_simp
            refine (HNa.out _).mono ?_
            rintro _ v1 ⟨rfl, hb⟩
            have HC := Lib.hid (HC.out.trans (hb.mono HC.out.size))
            first | have HZ := Lib.hid (HZ.out.step hb) | skip
            clear hb
            go_wp2_with fail
            refine hK.out _ _ ?_ (fun hHeld => ?_)
            · exact HC
            clear hK K
            try simp only [Act.put, List.setIfInBounds_toArray, List.set_cons_zero, List.set_cons_succ]
            refine wpAnyH_ready (rs := [5, 10]) (by kernel_rfl) (by simp) ?_
            refine AllReadyH.cons rfl (fun K hK => ?_) (AllReadyH.cons rfl (fun K hK => ?_) AllReadyH.nil)
            · go_simp
              refine (HNb.out _).mono ?_
              rintro _ v2 ⟨rfl, hb⟩
              have HC := Lib.hid (HC.out.trans (hb.mono HC.out.size))
              first | have HZ := Lib.hid (HZ.out.step hb) | skip
              clear hb
              go_wp2_with fail
              refine hK.out _ _ ?_ (fun hHeld => ?_)
              · exact HC
              clear hK K
              try simp only [Act.put, List.setIfInBounds_toArray, List.set_cons_zero, List.set_cons_succ]
              refine wpAnyH_ready (rs := [8, 10]) (by kernel_rfl) (by simp) ?_
              refine AllReadyH.cons rfl (fun K hK => ?_) (AllReadyH.cons rfl (fun K hK => ?_) AllReadyH.nil)
              · go_simp
                refine (HNc.out _).mono ?_
                rintro _ v3 ⟨rfl, hb⟩
                have HC := Lib.hid (HC.out.trans (hb.mono HC.out.size))
                first | (have HZ := Lib.hid (HZ.out.step hb); have gf := fun j => HZ.out.frz (i := j); have z0 := HZ.out.cell (i := 0) (v := .int .i64 0) rfl; have z1 := HZ.out.cell (i := 1) (v := .int .i64 0) rfl; have z2 := HZ.out.cell (i := 2) (v := .int .i64 0) rfl) | skip
                clear hb
                go_wp2_with fail
                refine hK.out _ _ ?_ (fun hHeld => ?_)
                · exact HC
                clear hK K
                try simp only [Act.put, List.setIfInBounds_toArray, List.set_cons_zero, List.set_cons_succ]
                refine wpAnyH_take (i := 9) (oi := { dst := some 28, op := _, type := _, pos := _, after := _, guard := _ }) (v := ?_) rfl (by kernel_rfl) (by kernel_rfl) (by kernel_rfl) (fun _ _ _ h => h) (Or.inl ⟨by rfl, ?_⟩) (by assumption) ?_
                rotate_left
                · intro w hSw
                  try dsimp only at hSw
                  go_simp
                  try with_reducible rfl
                try simp only [Act.put, List.setIfInBounds_toArray, List.set_cons_zero, List.set_cons_succ]
                refine wpAnyH_ready (rs := [10]) (by kernel_rfl) (by simp) ?_
                refine AllReadyH.cons rfl (fun K hK => ?_) AllReadyH.nil
                go_simp
                refine hK.out _ _ ?_ (fun hHeld => ?_)
                · exact Lib.hid (HC.out.alloc HC.out.size _)
                clear hK K
                have HD := HC
                have HC := hHeld
                first | have HZ := Lib.hid (kbc_of hHeld.out) | have HZ : Hid (KbC (w1.alloc (.cells #[.int .i64 0, .int .i64 0, .int .i64 0] 23)).drew w1.heap.size (.cells #[.int .i64 0, .int .i64 0, .int .i64 0] 23)) := Lib.hid (kbc_new w1.drew _)
                try simp only [Act.put, List.setIfInBounds_toArray, List.set_cons_zero, List.set_cons_succ]
                refine wpAnyH_ready (rs := [11]) (by kernel_rfl) (by simp) ?_
                refine AllReadyH.cons rfl (fun K hK => ?_) AllReadyH.nil
                go_simp
                refine hK.out _ _ ?_ (fun hHeld => ?_)
                · first | exact Lib.hid (HD.out.alloc HD.out.size _) | exact Lib.hid (((HC.out.setCell HD.out.size _).setCell HD.out.size _).setCell HD.out.size _)
                clear hK K
                first | have HB9 := Lib.hid (kbc_of hHeld.out) | have HB9 := Lib.hid (HZ.out.set3 (u := .int .i64 a) (v := .int .i64 b) (q := .int .i64 c))
                try simp only [Act.put, List.setIfInBounds_toArray, List.set_cons_zero, List.set_cons_succ]
                refine wpAnyH_done (by kernel_rfl) ?_ _
                go_wp2_with fail
                go_meet
                exact ⟨_, rfl, Lib.hid ⟨hHeld.out, HB9.out⟩⟩
              · go_simp
                refine hK.out _ _ ?_ (fun hHeld => ?_)
                · exact Lib.hid (HC.out.alloc HC.out.size _)
                clear hK K
                have HD := HC
                have HC := hHeld
                first | have HZ := Lib.hid (kbc_of hHeld.out) | have HZ : Hid (KbC (w1.alloc (.cells #[.int .i64 0, .int .i64 0, .int .i64 0] 23)).drew w1.heap.size (.cells #[.int .i64 0, .int .i64 0, .int .i64 0] 23)) := Lib.hid (kbc_new w1.drew _)
                try simp only [Act.put, List.setIfInBounds_toArray, List.set_cons_zero, List.set_cons_succ]
                refine wpAnyH_ready (rs := [8]) (by kernel_rfl) (by simp) ?_
                refine AllReadyH.cons rfl (fun K hK => ?_) AllReadyH.nil
                go_simp
                refine (HNc.out _).mono ?_
                rintro _ v3 ⟨rfl, hb⟩
                have HC := Lib.hid (HC.out.trans (hb.mono HC.out.size))
                first | (have HZ := Lib.hid (HZ.out.step hb); have gf := fun j => HZ.out.frz (i := j); have z0 := HZ.out.cell (i := 0) (v := .int .i64 0) rfl; have z1 := HZ.out.cell (i := 1) (v := .int .i64 0) rfl; have z2 := HZ.out.cell (i := 2) (v := .int .i64 0) rfl) | skip
                clear hb
                go_wp2_with fail
                refine hK.out _ _ ?_ (fun hHeld => ?_)
                · exact HC
                clear hK K
                try simp only [Act.put, List.setIfInBounds_toArray, List.set_cons_zero, List.set_cons_succ]
                refine wpAnyH_take (i := 9) (oi := { dst := some 28, op := _, type := _, pos := _, after := _, guard := _ }) (v := ?_) rfl (by kernel_rfl) (by kernel_rfl) (by kernel_rfl) (fun _ _ _ h => h) (Or.inl ⟨by rfl, ?_⟩) (by assumption) ?_
                rotate_left
                · intro w hSw
                  try dsimp only at hSw
                  go_simp
                  try with_reducible rfl
                try simp only [Act.put, List.setIfInBounds_toArray, List.set_cons_zero, List.set_cons_succ]
                refine wpAnyH_ready (rs := [11]) (by kernel_rfl) (by simp) ?_
                refine AllReadyH.cons rfl (fun K hK => ?_) AllReadyH.nil
                go_simp
                refine hK.out _ _ ?_ (fun hHeld => ?_)
                · first | exact Lib.hid (HD.out.alloc HD.out.size _) | exact Lib.hid (((HC.out.setCell HD.out.size _).setCell HD.out.size _).setCell HD.out.size _)
                clear hK K
                first | have HB9 := Lib.hid (kbc_of hHeld.out) | have HB9 := Lib.hid (HZ.out.set3 (u := .int .i64 a) (v := .int .i64 b) (q := .int .i64 c))
                try simp only [Act.put, List.setIfInBounds_toArray, List.set_cons_zero, List.set_cons_succ]
                refine wpAnyH_done (by kernel_rfl) ?_ _
                go_wp2_with fail
                go_meet
                exact ⟨_, rfl, Lib.hid ⟨hHeld.out, HB9.out⟩⟩
            · go_simp
              refine hK.out _ _ ?_ (fun hHeld => ?_)
              · exact Lib.hid (HC.out.alloc HC.out.size _)
              clear hK K
              have HD := HC
              have HC := hHeld
              first | have HZ := Lib.hid (kbc_of hHeld.out) | have HZ : Hid (KbC (w1.alloc (.cells #[.int .i64 0, .int .i64 0, .int .i64 0] 23)).drew w1.heap.size (.cells #[.int .i64 0, .int .i64 0, .int .i64 0] 23)) := Lib.hid (kbc_new w1.drew _)
              try simp only [Act.put, List.setIfInBounds_toArray, List.set_cons_zero, List.set_cons_succ]
              refine wpAnyH_ready (rs := [5]) (by kernel_rfl) (by simp) ?_
              refine AllReadyH.cons rfl (fun K hK => ?_) AllReadyH.nil
              go_simp
              refine (HNb.out _).mono ?_
              rintro _ v2 ⟨rfl, hb⟩
              have HC := Lib.hid (HC.out.trans (hb.mono HC.out.size))
              first | have HZ := Lib.hid (HZ.out.step hb) | skip
              clear hb
              go_wp2_with fail
              refine hK.out _ _ ?_ (fun hHeld => ?_)
              · exact HC
              clear hK K
              try simp only [Act.put, List.setIfInBounds_toArray, List.set_cons_zero, List.set_cons_succ]
              refine wpAnyH_ready (rs := [8]) (by kernel_rfl) (by simp) ?_
              refine AllReadyH.cons rfl (fun K hK => ?_) AllReadyH.nil
              go_simp
              refine (HNc.out _).mono ?_
              rintro _ v3 ⟨rfl, hb⟩
              have HC := Lib.hid (HC.out.trans (hb.mono HC.out.size))
              first | (have HZ := Lib.hid (HZ.out.step hb); have gf := fun j => HZ.out.frz (i := j); have z0 := HZ.out.cell (i := 0) (v := .int .i64 0) rfl; have z1 := HZ.out.cell (i := 1) (v := .int .i64 0) rfl; have z2 := HZ.out.cell (i := 2) (v := .int .i64 0) rfl) | skip
              clear hb
              go_wp2_with fail
              refine hK.out _ _ ?_ (fun hHeld => ?_)
              · exact HC
              clear hK K
              try simp only [Act.put, List.setIfInBounds_toArray, List.set_cons_zero, List.set_cons_succ]
              refine wpAnyH_take (i := 9) (oi := { dst := some 28, op := _, type := _, pos := _, after := _, guard := _ }) (v := ?_) rfl (by kernel_rfl) (by kernel_rfl) (by kernel_rfl) (fun _ _ _ h => h) (Or.inl ⟨by rfl, ?_⟩) (by assumption) ?_
              rotate_left
              · intro w hSw
                try dsimp only at hSw
                go_simp
                try with_reducible rfl
              try simp only [Act.put, List.setIfInBounds_toArray, List.set_cons_zero, List.set_cons_succ]
              refine wpAnyH_ready (rs := [11]) (by kernel_rfl) (by simp) ?_
              refine AllReadyH.cons rfl (fun K hK => ?_) AllReadyH.nil
              go_simp
              refine hK.out _ _ ?_ (fun hHeld => ?_)
              · first | exact Lib.hid (HD.out.alloc HD.out.size _) | exact Lib.hid (((HC.out.setCell HD.out.size _).setCell HD.out.size _).setCell HD.out.size _)
              clear hK K
              first | have HB9 := Lib.hid (kbc_of hHeld.out) | have HB9 := Lib.hid (HZ.out.set3 (u := .int .i64 a) (v := .int .i64 b) (q := .int .i64 c))
              try simp only [Act.put, List.setIfInBounds_toArray, List.set_cons_zero, List.set_cons_succ]
              refine wpAnyH_done (by kernel_rfl) ?_ _
              go_wp2_with fail
              go_meet
              exact ⟨_, rfl, Lib.hid ⟨hHeld.out, HB9.out⟩⟩
          · go_simp
            refine hK.out _ _ ?_ (fun hHeld => ?_)
            · exact Lib.hid (HC.out.alloc HC.out.size _)
            clear hK K
            have HD := HC
            have HC := hHeld
            first | have HZ := Lib.hid (kbc_of hHeld.out) | have HZ : Hid (KbC (w1.alloc (.cells #[.int .i64 0, .int .i64 0, .int .i64 0] 23)).drew w1.heap.size (.cells #[.int .i64 0, .int .i64 0, .int .i64 0] 23)) := Lib.hid (kbc_new w1.drew _)
            try simp only [Act.put, List.setIfInBounds_toArray, List.set_cons_zero, List.set_cons_succ]
            refine wpAnyH_ready (rs := [2]) (by kernel_rfl) (by simp) ?_
            refine AllReadyH.cons rfl (fun K hK => ?_) AllReadyH.nil
            go_simp
            refine (HNa.out _).mono ?_
            rintro _ v1 ⟨rfl, hb⟩
            have HC := Lib.hid (HC.out.trans (hb.mono HC.out.size))
            first | have HZ := Lib.hid (HZ.out.step hb) | skip
            clear hb
            go_wp2_with fail
            refine hK.out _ _ ?_ (fun hHeld => ?_)
            · exact HC
            clear hK K
            try simp only [Act.put, List.setIfInBounds_toArray, List.set_cons_zero, List.set_cons_succ]
            refine wpAnyH_ready (rs := [5]) (by kernel_rfl) (by simp) ?_
            refine AllReadyH.cons rfl (fun K hK => ?_) AllReadyH.nil
            go_simp
            refine (HNb.out _).mono ?_
            rintro _ v2 ⟨rfl, hb⟩
            have HC := Lib.hid (HC.out.trans (hb.mono HC.out.size))
            first | have HZ := Lib.hid (HZ.out.step hb) | skip
            clear hb
            go_wp2_with fail
            refine hK.out _ _ ?_ (fun hHeld => ?_)
            · exact HC
            clear hK K
            try simp only [Act.put, List.setIfInBounds_toArray, List.set_cons_zero, List.set_cons_succ]
            refine wpAnyH_ready (rs := [8]) (by kernel_rfl) (by simp) ?_
            refine AllReadyH.cons rfl (fun K hK => ?_) AllReadyH.nil
            go_simp
            refine (HNc.out _).mono ?_
            rintro _ v3 ⟨rfl, hb⟩
            have HC := Lib.hid (HC.out.trans (hb.mono HC.out.size))
            first | (have HZ := Lib.hid (HZ.out.step hb); have gf := fun j => HZ.out.frz (i := j); have z0 := HZ.out.cell (i := 0) (v := .int .i64 0) rfl; have z1 := HZ.out.cell (i := 1) (v := .int .i64 0) rfl; have z2 := HZ.out.cell (i := 2) (v := .int .i64 0) rfl) | skip
            clear hb
            go_wp2_with fail
            refine hK.out _ _ ?_ (fun hHeld => ?_)
            · exact HC
            clear hK K
            try simp only [Act.put, List.setIfInBounds_toArray, List.set_cons_zero, List.set_cons_succ]
            refine wpAnyH_take (i := 9) (oi := { dst := some 28, op := _, type := _, pos := _, after := _, guard := _ }) (v := ?_) rfl (by kernel_rfl) (by kernel_rfl) (by kernel_rfl) (fun _ _ _ h => h) (Or.inl ⟨by rfl, ?_⟩) (by assumption) ?_
            rotate_left
            · intro w hSw
              try dsimp only at hSw
              go_simp
              try with_reducible rfl
            try simp only [Act.put, List.setIfInBounds_toArray, List.set_cons_zero, List.set_cons_succ]
            refine wpAnyH_ready (rs := [11]) (by kernel_rfl) (by simp) ?_
            refine AllReadyH.cons rfl (fun K hK => ?_) AllReadyH.nil
            go_simp
            refine hK.out _ _ ?_ (fun hHeld => ?_)
            · first | exact Lib.hid (HD.out.alloc HD.out.size _) | exact Lib.hid (((HC.out.setCell HD.out.size _).setCell HD.out.size _).setCell HD.out.size _)
            clear hK K
            first | have HB9 := Lib.hid (kbc_of hHeld.out) | have HB9 := Lib.hid (HZ.out.set3 (u := .int .i64 a) (v := .int .i64 b) (q := .int .i64 c))
            try simp only [Act.put, List.setIfInBounds_toArray, List.set_cons_zero, List.set_cons_succ]
            refine wpAnyH_done (by kernel_rfl) ?_ _
            go_wp2_with fail
            go_meet
            exact ⟨_, rfl, Lib.hid ⟨hHeld.out, HB9.out⟩⟩
        case rest =>
          obtain ⟨b4, rfl, HCC⟩ := hcut
          have HRc := Lib.hid (HR.out.step HCC.out.1)
          have HL := Lib.hid (HW.out.trans (HCC.out.1.mono HW.out.size))
          have HK := Lib.hid HCC.out.2
          clear HNa HNb HNc HCC HW HR
          have l0 : wc.cell? ⟨b4, 0, none⟩ = some (.int .i64 a) := HK.out.cell rfl
          have l1 : wc.cell? ⟨b4, 1, none⟩ = some (.int .i64 b) := HK.out.cell rfl
          have l2 : wc.cell? ⟨b4, 2, none⟩ = some (.int .i64 c) := HK.out.cell rfl
          by_cases a0 : a < 0
          · have HF := Lib.hid (par_none (HP1.out (.inl a0)))
            have k0 : decide (a < 0) = true := decide_eq_true a0
            have y0 : wc.cell? ⟨w.heap.size, 0, none⟩ = some (.int .i64 0) := HRc.out.cell rfl
            have y1 : wc.cell? ⟨w.heap.size, 1, none⟩ = some (.int .i64 0) := HRc.out.cell rfl
            have y2 : wc.cell? ⟨w.heap.size, 2, none⟩ = some (.int .i64 0) := HRc.out.cell rfl
            have gf : ∀ j, wc.frozen? ⟨w.heap.size, j, none⟩ = false := fun j => HRc.out.frz
            have x0 : (((wc.setCell ⟨w.heap.size, 0, none⟩ (.int .i64 0)).setCell ⟨w.heap.size, 1, none⟩ (.int .i64 0)).setCell ⟨w.heap.size, 2, none⟩ (.int .i64 0)).cell? ⟨w.heap.size, 0, none⟩ = some (.int .i64 0) := (HRc.out.set3).cell rfl
            have x1 : (((wc.setCell ⟨w.heap.size, 0, none⟩ (.int .i64 0)).setCell ⟨w.heap.size, 1, none⟩ (.int .i64 0)).setCell ⟨w.heap.size, 2, none⟩ (.int .i64 0)).cell? ⟨w.heap.size, 1, none⟩ = some (.int .i64 0) := (HRc.out.set3).cell rfl
            have x2 : (((wc.setCell ⟨w.heap.size, 0, none⟩ (.int .i64 0)).setCell ⟨w.heap.size, 1, none⟩ (.int .i64 0)).setCell ⟨w.heap.size, 2, none⟩ (.int .i64 0)).cell? ⟨w.heap.size, 2, none⟩ = some (.int .i64 0) := (HRc.out.set3).cell rfl
            go_wp2_with fail
            refine bodyPost_ret (v := .tuple #[.agg #[.int .i64 0, .int .i64 0, .int .i64 0], .int .i64 4]) (by simp [results, Tryz.results49, go_sem, x0, x1, x2]) rfl ⟨by rw [HF.out.1, HF.out.2]; rfl, ?_⟩
            exact ((HL.out.setCell (p := ⟨w.heap.size, 0, none⟩) (Nat.le_refl _) _).setCell (p := ⟨w.heap.size, 1, none⟩) (Nat.le_refl _) _).setCell (p := ⟨w.heap.size, 2, none⟩) (Nat.le_refl _) _
          · have k0 : decide (a < 0) = false := decide_eq_false a0
            by_cases b0 : b < 0
            · have HF := Lib.hid (par_none (HP1.out (.inr (.inl b0))))
              have k1 : decide (b < 0) = true := decide_eq_true b0
              have y0 : wc.cell? ⟨w.heap.size, 0, none⟩ = some (.int .i64 0) := HRc.out.cell rfl
              have y1 : wc.cell? ⟨w.heap.size, 1, none⟩ = some (.int .i64 0) := HRc.out.cell rfl
              have y2 : wc.cell? ⟨w.heap.size, 2, none⟩ = some (.int .i64 0) := HRc.out.cell rfl
              have gf : ∀ j, wc.frozen? ⟨w.heap.size, j, none⟩ = false := fun j => HRc.out.frz
              have x0 : (((wc.setCell ⟨w.heap.size, 0, none⟩ (.int .i64 0)).setCell ⟨w.heap.size, 1, none⟩ (.int .i64 0)).setCell ⟨w.heap.size, 2, none⟩ (.int .i64 0)).cell? ⟨w.heap.size, 0, none⟩ = some (.int .i64 0) := (HRc.out.set3).cell rfl
              have x1 : (((wc.setCell ⟨w.heap.size, 0, none⟩ (.int .i64 0)).setCell ⟨w.heap.size, 1, none⟩ (.int .i64 0)).setCell ⟨w.heap.size, 2, none⟩ (.int .i64 0)).cell? ⟨w.heap.size, 1, none⟩ = some (.int .i64 0) := (HRc.out.set3).cell rfl
              have x2 : (((wc.setCell ⟨w.heap.size, 0, none⟩ (.int .i64 0)).setCell ⟨w.heap.size, 1, none⟩ (.int .i64 0)).setCell ⟨w.heap.size, 2, none⟩ (.int .i64 0)).cell? ⟨w.heap.size, 2, none⟩ = some (.int .i64 0) := (HRc.out.set3).cell rfl
              go_wp2_with fail
              refine bodyPost_ret (v := .tuple #[.agg #[.int .i64 0, .int .i64 0, .int .i64 0], .int .i64 4]) (by simp [results, Tryz.results49, go_sem, x0, x1, x2]) rfl ⟨by rw [HF.out.1, HF.out.2]; rfl, ?_⟩
              exact ((HL.out.setCell (p := ⟨w.heap.size, 0, none⟩) (Nat.le_refl _) _).setCell (p := ⟨w.heap.size, 1, none⟩) (Nat.le_refl _) _).setCell (p := ⟨w.heap.size, 2, none⟩) (Nat.le_refl _) _
            · have k1 : decide (b < 0) = false := decide_eq_false b0
              by_cases c0 : c < 0
              · have HF := Lib.hid (par_none (HP1.out (.inr (.inr c0))))
                have k2 : decide (c < 0) = true := decide_eq_true c0
                have y0 : wc.cell? ⟨w.heap.size, 0, none⟩ = some (.int .i64 0) := HRc.out.cell rfl
                have y1 : wc.cell? ⟨w.heap.size, 1, none⟩ = some (.int .i64 0) := HRc.out.cell rfl
                have y2 : wc.cell? ⟨w.heap.size, 2, none⟩ = some (.int .i64 0) := HRc.out.cell rfl
                have gf : ∀ j, wc.frozen? ⟨w.heap.size, j, none⟩ = false := fun j => HRc.out.frz
                have x0 : (((wc.setCell ⟨w.heap.size, 0, none⟩ (.int .i64 0)).setCell ⟨w.heap.size, 1, none⟩ (.int .i64 0)).setCell ⟨w.heap.size, 2, none⟩ (.int .i64 0)).cell? ⟨w.heap.size, 0, none⟩ = some (.int .i64 0) := (HRc.out.set3).cell rfl
                have x1 : (((wc.setCell ⟨w.heap.size, 0, none⟩ (.int .i64 0)).setCell ⟨w.heap.size, 1, none⟩ (.int .i64 0)).setCell ⟨w.heap.size, 2, none⟩ (.int .i64 0)).cell? ⟨w.heap.size, 1, none⟩ = some (.int .i64 0) := (HRc.out.set3).cell rfl
                have x2 : (((wc.setCell ⟨w.heap.size, 0, none⟩ (.int .i64 0)).setCell ⟨w.heap.size, 1, none⟩ (.int .i64 0)).setCell ⟨w.heap.size, 2, none⟩ (.int .i64 0)).cell? ⟨w.heap.size, 2, none⟩ = some (.int .i64 0) := (HRc.out.set3).cell rfl
                go_wp2_with fail
                refine bodyPost_ret (v := .tuple #[.agg #[.int .i64 0, .int .i64 0, .int .i64 0], .int .i64 4]) (by simp [results, Tryz.results49, go_sem, x0, x1, x2]) rfl ⟨by rw [HF.out.1, HF.out.2]; rfl, ?_⟩
                exact ((HL.out.setCell (p := ⟨w.heap.size, 0, none⟩) (Nat.le_refl _) _).setCell (p := ⟨w.heap.size, 1, none⟩) (Nat.le_refl _) _).setCell (p := ⟨w.heap.size, 2, none⟩) (Nat.le_refl _) _
              · have k2 : decide (c < 0) = false := decide_eq_false c0
                have HS := Lib.hid (HP2.out (by omega) (by omega) (by omega))
                have hv1 := rvld_k (a, b, c)
                dsimp only at hv1
                cases hv : vldC (a, b, c)
                · have HF := Lib.hid (par_bad HS.out (fun k => by rw [(vldC_iff _).2 k] at hv; cases hv))
                  go_wp2_with fail
                  refine (hv1 _ _ hv).mono ?_
                  rintro e w' ⟨rfl, rfl⟩
                  have hbx := box_below wc (.cells #[.int .i64 a, .int .i64 b, .int .i64 c] 23)
                  have HRc := Lib.hid (HRc.out.step hbx)
                  have HL := Lib.hid (HL.out.trans (hbx.mono HL.out.size))
                  have HK := Lib.hid (HK.out.step hbx)
                  clear hbx l0 l1 l2
                  generalize wc.alloc (.cells #[.int .i64 a, .int .i64 b, .int .i64 c] 23) = wd at HRc HL HK ⊢
                  have l0 : wd.cell? ⟨b4, 0, none⟩ = some (.int .i64 a) := HK.out.cell rfl
                  have l1 : wd.cell? ⟨b4, 1, none⟩ = some (.int .i64 b) := HK.out.cell rfl
                  have l2 : wd.cell? ⟨b4, 2, none⟩ = some (.int .i64 c) := HK.out.cell rfl
                  have y0 : wd.cell? ⟨w.heap.size, 0, none⟩ = some (.int .i64 0) := HRc.out.cell rfl
                  have y1 : wd.cell? ⟨w.heap.size, 1, none⟩ = some (.int .i64 0) := HRc.out.cell rfl
                  have y2 : wd.cell? ⟨w.heap.size, 2, none⟩ = some (.int .i64 0) := HRc.out.cell rfl
                  have gf : ∀ j, wd.frozen? ⟨w.heap.size, j, none⟩ = false := fun j => HRc.out.frz
                  have x0 : (((wd.setCell ⟨w.heap.size, 0, none⟩ (.int .i64 0)).setCell ⟨w.heap.size, 1, none⟩ (.int .i64 0)).setCell ⟨w.heap.size, 2, none⟩ (.int .i64 0)).cell? ⟨w.heap.size, 0, none⟩ = some (.int .i64 0) := (HRc.out.set3).cell rfl
                  have x1 : (((wd.setCell ⟨w.heap.size, 0, none⟩ (.int .i64 0)).setCell ⟨w.heap.size, 1, none⟩ (.int .i64 0)).setCell ⟨w.heap.size, 2, none⟩ (.int .i64 0)).cell? ⟨w.heap.size, 1, none⟩ = some (.int .i64 0) := (HRc.out.set3).cell rfl
                  have x2 : (((wd.setCell ⟨w.heap.size, 0, none⟩ (.int .i64 0)).setCell ⟨w.heap.size, 1, none⟩ (.int .i64 0)).setCell ⟨w.heap.size, 2, none⟩ (.int .i64 0)).cell? ⟨w.heap.size, 2, none⟩ = some (.int .i64 0) := (HRc.out.set3).cell rfl
                  go_wp2_with fail
                  refine bodyPost_ret (v := .tuple #[.agg #[.int .i64 0, .int .i64 0, .int .i64 0], .int .i64 27]) (by simp [results, Tryz.results49, go_sem, x0, x1, x2]) rfl ⟨by rw [HF.out.1, HF.out.2]; rfl, ?_⟩
                  exact ((HL.out.setCell (p := ⟨w.heap.size, 0, none⟩) (Nat.le_refl _) _).setCell (p := ⟨w.heap.size, 1, none⟩) (Nat.le_refl _) _).setCell (p := ⟨w.heap.size, 2, none⟩) (Nat.le_refl _) _
                · have HF := Lib.hid (par_good HS.out ((vldC_iff _).1 hv))
                  go_wp2_with fail
                  refine (hv1 _ _ hv).mono ?_
                  rintro e w' ⟨rfl, rfl⟩
                  have hbx := box_below wc (.cells #[.int .i64 a, .int .i64 b, .int .i64 c] 23)
                  have HRc := Lib.hid (HRc.out.step hbx)
                  have HL := Lib.hid (HL.out.trans (hbx.mono HL.out.size))
                  have HK := Lib.hid (HK.out.step hbx)
                  clear hbx l0 l1 l2
                  generalize wc.alloc (.cells #[.int .i64 a, .int .i64 b, .int .i64 c] 23) = wd at HRc HL HK ⊢
                  have l0 : wd.cell? ⟨b4, 0, none⟩ = some (.int .i64 a) := HK.out.cell rfl
                  have l1 : wd.cell? ⟨b4, 1, none⟩ = some (.int .i64 b) := HK.out.cell rfl
                  have l2 : wd.cell? ⟨b4, 2, none⟩ = some (.int .i64 c) := HK.out.cell rfl
                  have y0 : wd.cell? ⟨w.heap.size, 0, none⟩ = some (.int .i64 0) := HRc.out.cell rfl
                  have y1 : wd.cell? ⟨w.heap.size, 1, none⟩ = some (.int .i64 0) := HRc.out.cell rfl
                  have y2 : wd.cell? ⟨w.heap.size, 2, none⟩ = some (.int .i64 0) := HRc.out.cell rfl
                  have gf : ∀ j, wd.frozen? ⟨w.heap.size, j, none⟩ = false := fun j => HRc.out.frz
                  have x0 : (((wd.setCell ⟨w.heap.size, 0, none⟩ (.int .i64 a)).setCell ⟨w.heap.size, 1, none⟩ (.int .i64 b)).setCell ⟨w.heap.size, 2, none⟩ (.int .i64 c)).cell? ⟨w.heap.size, 0, none⟩ = some (.int .i64 a) := (HRc.out.set3).cell rfl
                  have x1 : (((wd.setCell ⟨w.heap.size, 0, none⟩ (.int .i64 a)).setCell ⟨w.heap.size, 1, none⟩ (.int .i64 b)).setCell ⟨w.heap.size, 2, none⟩ (.int .i64 c)).cell? ⟨w.heap.size, 1, none⟩ = some (.int .i64 b) := (HRc.out.set3).cell rfl
                  have x2 : (((wd.setCell ⟨w.heap.size, 0, none⟩ (.int .i64 a)).setCell ⟨w.heap.size, 1, none⟩ (.int .i64 b)).setCell ⟨w.heap.size, 2, none⟩ (.int .i64 c)).cell? ⟨w.heap.size, 2, none⟩ = some (.int .i64 c) := (HRc.out.set3).cell rfl
                  go_wp2_with fail
                  refine bodyPost_ret (v := .tuple #[.agg #[.int .i64 a, .int .i64 b, .int .i64 c], .int .i64 0]) (by simp [results, Tryz.results49, go_sem, x0, x1, x2]) rfl ⟨by rw [HF.out.1, HF.out.2]; rfl, ?_⟩
                  exact ((HL.out.setCell (p := ⟨w.heap.size, 0, none⟩) (Nat.le_refl _) _).setCell (p := ⟨w.heap.size, 1, none⟩) (Nat.le_refl _) _).setCell (p := ⟨w.heap.size, 2, none⟩) (Nat.le_refl _) _
      · have HF := Lib.hid (HNo.out (fun h => h2 h.2.2))
        have q2 : (bt s 20 != 45) = true := bne_iff_ne.2 h2
        go_enter Tryz.func49, Tryz.ntmps49
        go_wp2_with fail
        refine bodyPost_ret (v := .tuple #[.agg #[.int .i64 0, .int .i64 0, .int .i64 0], .int .i64 4]) (by simp [results, Tryz.results49, go_sem]) rfl ⟨by rw [HF.out.1, HF.out.2]; rfl, ?_⟩
        first | exact HW.out | exact ((HW.out.setCell (p := ⟨w.heap.size, 0, none⟩) (Nat.le_refl _) _).setCell (p := ⟨w.heap.size, 1, none⟩) (Nat.le_refl _) _).setCell (p := ⟨w.heap.size, 2, none⟩) (Nat.le_refl _) _
    · have HF := Lib.hid (HNo.out (fun h => h1 h.2.1))
      have q1 : (bt s 11 != 45) = true := bne_iff_ne.2 h1
      go_enter Tryz.func49, Tryz.ntmps49
      go_wp2_with fail
      refine bodyPost_ret (v := .tuple #[.agg #[.int .i64 0, .int .i64 0, .int .i64 0], .int .i64 4]) (by simp [results, Tryz.results49, go_sem]) rfl ⟨by rw [HF.out.1, HF.out.2]; rfl, ?_⟩
      first | exact HW.out | exact ((HW.out.setCell (p := ⟨w.heap.size, 0, none⟩) (Nat.le_refl _) _).setCell (p := ⟨w.heap.size, 1, none⟩) (Nat.le_refl _) _).setCell (p := ⟨w.heap.size, 2, none⟩) (Nat.le_refl _) _
  · have HF := Lib.hid (HNo.out (fun h => h0 h.1))
    have q0 : ((s.size : Int) != 22) = true := bne_iff_ne.2 (by omega)
    go_enter Tryz.func49, Tryz.ntmps49
    go_wp2_with fail
    refine bodyPost_ret (v := .tuple #[.agg #[.int .i64 0, .int .i64 0, .int .i64 0], .int .i64 4]) (by simp [results, Tryz.results49, go_sem]) rfl ⟨by rw [HF.out.1, HF.out.2]; rfl, ?_⟩
    first | exact HW.out | exact ((HW.out.setCell (p := ⟨w.heap.size, 0, none⟩) (Nat.le_refl _) _).setCell (p := ⟨w.heap.size, 1, none⟩) (Nat.le_refl _) _).setCell (p := ⟨w.heap.size, 2, none⟩) (Nat.le_refl _) _
end Csn
end Go.Proofs.YtbkignlbcneddaaGreatDoor
end

section
/-
  The shelf of this seat lies in one text. No condition.
-/
namespace Go.Proofs.YtbkignlbcneddaaGreatDoor
end Go.Proofs.YtbkignlbcneddaaGreatDoor
end

section
/-
  Pieces between bytes: strings.Split, strings.Join at one byte, and what they undo of one another. Condition: strings of at most 1100000 bytes, lists of at most 1000.
-/
set_option maxRecDepth 100000
namespace Go.Proofs.YtbkignlbcneddaaGreatDoor
open Go.RowKit Go.PlainAid
theorem heap_cell {W : World} {b i : Nat} {c : Array Value} {t : TypeId} {v : Value} (h : W.heap[b]? = some (.cells c t)) (hv : c[i]? = some v) : W.cell? ⟨b, i, none⟩ = some v := by
  simp [World.cell?, h, hv]
def joinB (sep : UInt8) (l : List ByteArray) : ByteArray := ⟨(Lib.join (l.map (·.data.toList)) [sep]).toArray⟩
theorem join_le (sep : UInt8) (M : Nat) : ∀ l : List (List UInt8), (∀ x ∈ l, x.length ≤ M) → (Lib.join l [sep]).length ≤ l.length * (M + 1)
  | [], _ => by simp [Lib.join]
  | [x], h => by
    have := h x (List.mem_singleton.2 rfl)
    simp [Lib.join]; omega
  | x :: y :: r, h => by
    have h1 := h x (List.mem_cons_self ..)
    have ih := join_le sep M (y :: r) (fun z hz => h z (List.mem_cons_of_mem _ hz))
    have e : Lib.join (x :: y :: r) [sep] = x ++ [sep] ++ Lib.join (y :: r) [sep] := by simp [Lib.join]
    have e2 : (x :: y :: r).length * (M + 1) = (y :: r).length * (M + 1) + (M + 1) := by rw [List.length_cons, Nat.succ_mul]
    rw [e, List.length_append, List.length_append, e2]
    show x.length + 1 + (Lib.join (y :: r) [sep]).length ≤ _
    omega
theorem joinF_s (sep : UInt8) (ao : Option Addr) (n cap : Nat) (l : List ByteArray) (w : World) (h : StrsAt w ao n cap l) (hn : 0 < n) (hl : n ≤ 1000) (hz : ∀ s ∈ l, s.size ≤ 1000000000) :
    Calls Tryz.prog 90 #[.slice ao n cap, .string ⟨#[sep]⟩] w fun e w' => e = .returned (.string (joinB sep l)) ∧ Below w.heap.size w w' := by
  obtain ⟨h1, h2, h3, h4⟩ := h
  subst h1
  obtain ⟨b, off, rfl, hb, hc⟩ := h4 hn
  refine Tryz.strings_Join b off cap l ⟨#[sep]⟩ w (fun j x hj => ?_) hb (by omega) h2 ?_
  · obtain ⟨hj1, hj2⟩ := List.getElem?_eq_some_iff.1 hj
    have := hc j hj1
    unfold partAt at this
    rw [List.getD_eq_getElem?_getD, List.getElem?_eq_getElem hj1, hj2] at this
    exact this
  · have := join_le sep 1000000000 (l.map (·.data.toList)) (fun x hx => by
      obtain ⟨s, hs, rfl⟩ := List.mem_map.1 hx
      have := hz s hs
      rw [← Lib.size_eq]; exact this)
    rw [List.length_map] at this
    have h5 : l.length * (1000000000 + 1) ≤ 1000 * 1000000001 := Nat.mul_le_mul_right _ hl
    show (Lib.join (l.map (·.data.toList)) [sep]).length ≤ 140737488355328
    omega
theorem joinB_le {sep : UInt8} {l : List ByteArray} {M : Nat} (hz : ∀ s ∈ l, s.size ≤ M) : (joinB sep l).size ≤ l.length * (M + 1) := by
  have := join_le sep M (l.map (·.data.toList)) (fun x hx => by
    obtain ⟨s, hs, rfl⟩ := List.mem_map.1 hx
    have := hz s hs
    rw [← Lib.size_eq]; exact this)
  rw [List.length_map] at this
  unfold joinB
  rw [Lib.size_mk]; exact this
def partsB (sep : UInt8) (s : ByteArray) : List ByteArray := Lib.splitB ⟨#[sep]⟩ 0 (Lib.countB s ⟨#[sep]⟩) s
theorem split_small (sep : ByteArray) : ∀ (k : Nat) (s x : ByteArray), x ∈ Lib.splitB sep 0 k s → x.size ≤ s.size
  | 0, s, x, h => by rw [List.mem_singleton.1 h]; exact Nat.le_refl _
  | k + 1, s, x, h => by
    unfold Lib.splitB at h
    split at h
    · rw [List.mem_singleton.1 h]; exact Nat.le_refl _
    · rcases List.mem_cons.1 h with h | h
      · rw [h, ByteArray.size_extract]; omega
      · have := split_small sep k _ x h
        rw [ByteArray.size_extract] at this; omega
theorem partsB_small {sep : UInt8} {s x : ByteArray} (h : x ∈ partsB sep s) : x.size ≤ s.size := split_small _ _ _ _ h
theorem partsB_len (sep : UInt8) (s : ByteArray) : (partsB sep s).length = Lib.countB s ⟨#[sep]⟩ + 1 := Lib.splitB_all ⟨#[sep]⟩ (Nat.le_refl 1) 0 _ s rfl
theorem partsB_le (sep : UInt8) (s : ByteArray) : (partsB sep s).length ≤ s.size + 1 := by
  rw [partsB_len]
  have := Lib.countB_le ⟨#[sep]⟩ (Nat.le_refl 1) s.size s (Nat.le_refl _)
  omega
theorem splitF_s (sep : UInt8) (s : ByteArray) (w : World) (hs : s.size ≤ 1100000) (hm : MaxOk w) :
    Calls Tryz.prog 47 #[.string s, .string ⟨#[sep]⟩] w fun e w' => e = .returned (.slice (some ⟨w.heap.size, 0, none⟩) (partsB sep s).length (partsB sep s).length) ∧ StrsAt w' (some ⟨w.heap.size, 0, none⟩) (partsB sep s).length (partsB sep s).length (partsB sep s) ∧ Below w.heap.size w w' := by
  obtain ⟨m, hm⟩ := hm
  refine (Tryz.strings_Split s ⟨#[sep]⟩ m w (by omega) hm (Nat.le_refl 1)).mono ?_
  rintro e w' ⟨rfl, rfl⟩
  have hle := partsB_le sep s
  refine ⟨by rw [partsB_len], ⟨rfl, Nat.le_refl _, by unfold maxLen; omega, fun hn => ⟨_, 0, rfl, by simp, fun j hj => ?_⟩⟩, (Below.refl _ _).alloc (Nat.le_refl _) _⟩
  have h : (w.alloc (.cells ((partsB sep s).map Value.string).toArray 9)).heap[w.heap.size]? = some (.cells ((partsB sep s).map Value.string).toArray 9 (0, 0)) := heap_alloc_new w _
  refine heap_cell (W := w.alloc (.cells ((partsB sep s).map Value.string).toArray 9)) h ?_
  rw [Nat.zero_add, List.getElem?_toArray, List.getElem?_map, List.getElem?_eq_getElem hj]
  unfold partAt
  rw [List.getD_eq_getElem?_getD, List.getElem?_eq_getElem hj]; rfl
theorem pc_ne (c : UInt8) (l : List UInt8) : pieces c l ≠ [] := by
  cases l with
  | nil => simp [pieces]
  | cons x r =>
    unfold pieces
    split
    · simp
    · split <;> simp
theorem pc_app (c : UInt8) (y : List UInt8) : ∀ x : List UInt8, c ∉ x → pieces c (x ++ c :: y) = x :: pieces c y
  | [], _ => by show pieces c (c :: y) = _; conv => lhs; unfold pieces; rw [if_pos rfl]
  | a :: x, h => by
    have ha : a ≠ c := fun e => h (by rw [e]; simp)
    have ih := pc_app c y x (fun k => h (by simp [k]))
    show pieces c (a :: (x ++ c :: y)) = _
    conv => lhs; unfold pieces
    rw [if_neg ha, ih]
theorem pc_none (c : UInt8) (x : List UInt8) (h : c ∉ x) : pieces c x = [x] := pieces_miss c x (fun j hj => h (List.mem_of_getElem? hj))
theorem join_two (x y : List UInt8) (r : List (List UInt8)) (c : UInt8) : Lib.join (x :: y :: r) [c] = x ++ c :: Lib.join (y :: r) [c] := by
  rw [Lib.join_cons, Lib.join_cons]; simp [Lib.joinTail]
theorem pc_join (c : UInt8) : ∀ ps : List (List UInt8), ps ≠ [] → (∀ p ∈ ps, c ∉ p) → pieces c (Lib.join ps [c]) = ps
  | [], h, _ => absurd rfl h
  | [x], _, h => by rw [Lib.join_one]; exact pc_none c x (h x (by simp))
  | x :: y :: r, _, h => by
    rw [join_two, pc_app c _ x (h x (by simp)), pc_join c (y :: r) (by simp) (fun p hp => h p (by simp [hp]))]
theorem join_pc (c : UInt8) : ∀ l : List UInt8, Lib.join (pieces c l) [c] = l
  | [] => by simp [pieces, Lib.join_one]
  | a :: r => by
    have ih := join_pc c r
    unfold pieces
    split
    · rename_i e
      cases hp : pieces c r with
      | nil => exact absurd hp (pc_ne c r)
      | cons q qs => rw [hp] at ih; rw [join_two, ih, e]; rfl
    · split
      · rename_i q qs e
        rw [e] at ih
        rw [Lib.join_cons] at ih ⊢
        rw [List.cons_append, ih]
      · rename_i e; exact absurd e (pc_ne c r)
theorem splitB_pc (c : UInt8) : ∀ (n : Nat) (s : ByteArray), s.size ≤ n → (Lib.splitB ⟨#[c]⟩ 0 (Lib.countB s ⟨#[c]⟩) s).map (·.data.toList) = pieces c s.data.toList := by
  intro n
  induction n with
  | zero =>
    intro s hs
    have h0 : s.data.toList = [] := List.length_eq_zero_iff.1 (by rw [← Lib.size_eq]; omega)
    have hi : Lib.indexB s ⟨#[c]⟩ = -1 := by
      rcases Lib.index_spec s.data.toList [c] with ⟨hi, _⟩ | ⟨i, _, hle, ho, _⟩
      · exact hi
      · have hg := (occ_one _ _ _).1 ho
        rw [h0] at hg; simp at hg
    rw [Lib.splitB_miss _ _ _ _ hi, h0]
    simp [pieces, h0]
  | succ n ih =>
    intro s hs
    rcases Lib.index_spec s.data.toList [c] with ⟨hi, hn⟩ | ⟨i, hi, hle, ho, hno⟩
    · have hi' : Lib.indexB s ⟨#[c]⟩ = -1 := hi
      rw [Lib.splitB_miss _ _ _ _ hi', pieces_miss c s.data.toList (fun j hj => by
        have hlt : j < s.data.toList.length := (List.getElem?_eq_some_iff.1 hj).1
        have := hn j (by omega)
        rw [(occ_one _ _ _).2 hj] at this
        cases this)]
      rfl
    · have hi' : Lib.indexB s ⟨#[c]⟩ = i := hi
      have hget := (occ_one _ _ _).1 ho
      have hlt : i < s.data.toList.length := (List.getElem?_eq_some_iff.1 hget).1
      have hno' : ∀ j, j < i → s.data.toList[j]? ≠ some c := fun j hj h => by
        have := hno j hj
        rw [(occ_one _ _ _).2 h] at this
        cases this
      have h1 : (⟨#[c]⟩ : ByteArray).size = 1 := rfl
      rw [Lib.countB_hit s ⟨#[c]⟩ i (by rw [h1]; exact Nat.le_refl _) hi', Nat.add_comm, Lib.splitB_hit _ _ _ _ i hi', List.map_cons, h1]
      have hsz := Lib.size_eq s
      have hr := ih (s.extract (i + 1) s.size) (by rw [Lib.size_eq, Lib.extract_to_end, List.length_drop]; omega)
      rw [hr, pieces_hit c _ i hget hno', Lib.extract_to_end, Lib.extract_from_zero, Nat.add_zero]
theorem partsB_pc (c : UInt8) (s : ByteArray) : (partsB c s).map (·.data.toList) = pieces c s.data.toList := splitB_pc c _ s (Nat.le_refl _)
theorem parts_ofL (c : UInt8) (s : ByteArray) : partsB c s = (pieces c s.data.toList).map ofL := by
  rw [← partsB_pc, List.map_map]
  conv => lhs; rw [← List.map_id (partsB c s)]
  exact List.map_congr_left fun x _ => (Lib.mk_data x).symm
theorem map_inj {a b : List ByteArray} (h : a.map (·.data.toList) = b.map (·.data.toList)) : a = b := by
  have : ∀ x : List ByteArray, x.map (fun s => ofL s.data.toList) = x := fun x => by
    conv => rhs; rw [← List.map_id x]
    exact List.map_congr_left (fun s _ => Lib.mk_data s)
  have h2 := congrArg (List.map ofL) h
  rw [List.map_map, List.map_map] at h2
  have e1 := this a
  have e2 := this b
  rw [← e1, ← e2]
  exact h2
/-- split of a join, join of a split -/
theorem parts_join {c : UInt8} {l : List ByteArray} (hl : l ≠ []) (h : ∀ s ∈ l, c ∉ s.data.toList) : partsB c (joinB c l) = l := by
  refine map_inj ?_
  rw [partsB_pc]
  show pieces c (Lib.join (l.map (·.data.toList)) [c]) = _
  exact pc_join c _ (by simpa using hl) (fun p hp => by obtain ⟨s, hs, rfl⟩ := List.mem_map.1 hp; exact h s hs)
theorem join_parts (c : UInt8) (s : ByteArray) : joinB c (partsB c s) = s := by
  unfold joinB
  rw [partsB_pc, join_pc]
theorem cut_mk (x y : List UInt8) (b : UInt8) (hx : b ∉ x) : cutOk (ofL (x ++ b :: y)) ⟨#[b]⟩ = true ∧ cutBef (ofL (x ++ b :: y)) ⟨#[b]⟩ = ofL x ∧ cutAft (ofL (x ++ b :: y)) ⟨#[b]⟩ = ofL y := by
  have e0 : (ofL (x ++ b :: y)).data.toList = x ++ b :: y := rfl
  have hp := pc_app b y x hx
  rcases cut_one (ofL (x ++ b :: y)) b with k | k
  · have k2 := k.2.1
    rw [e0, hp] at k2
    injection k2 with h1 h2
    refine ⟨k.1, ?_, ?_⟩
    · exact (Lib.mk_data _).symm.trans (congrArg ofL h1.symm)
    · have h3 := (join_pc b (cutAft (ofL (x ++ b :: y)) ⟨#[b]⟩).data.toList).symm.trans ((congrArg (fun p => Lib.join p [b]) h2.symm).trans (join_pc b y))
      exact (Lib.mk_data _).symm.trans (congrArg ofL h3)
  · have k2 := k.2.1
    rw [e0, hp] at k2
    injection k2 with h1 h2
    exact absurd h2 (pc_ne b y)
theorem cut_split (t : ByteArray) (b : UInt8) (h : cutOk t ⟨#[b]⟩ = true) : t.data.toList = (cutBef t ⟨#[b]⟩).data.toList ++ b :: (cutAft t ⟨#[b]⟩).data.toList := by
  rcases cut_one t b with k | k
  · have h1 := join_pc b t.data.toList
    rw [k.2.1] at h1
    have h2 := join_pc b (cutAft t ⟨#[b]⟩).data.toList
    cases e : pieces b (cutAft t ⟨#[b]⟩).data.toList with
    | nil => exact absurd e (pc_ne b _)
    | cons q r =>
      rw [e] at h1 h2
      rw [← h1, join_two, h2]
  · rw [k.1] at h; cases h
end Go.Proofs.YtbkignlbcneddaaGreatDoor
end
