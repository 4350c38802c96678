/-
  Contracts of Recovery on both sides. Condition: strings of at most 1000000 bytes.
-/
import Derived.Test.YtmkcojgdhdmnnaaDoorOtpD
import Derived.Test.YtmkcojgdhdmnnaaDoorSchStrs
set_option maxRecDepth 100000
set_option linter.unusedVariables false
set_option linter.unusedSimpArgs false
set_option linter.unnecessarySimpa false
namespace Go.Proofs.YtmkcojgdhdmnnaaDoor
open Go.RowKit Go.PlainAid

/-- what is in the list after k codes -/
def recM (s : ByteArray) (n k : Nat) : List ByteArray := recL s k ++ List.replicate (n - k) ⟨#[]⟩
theorem recM_zero (s : ByteArray) (n : Nat) : recM s n 0 = List.replicate n ⟨#[]⟩ := by unfold recM; rw [show recL s 0 = [] from rfl, List.nil_append, Nat.sub_zero]
theorem recM_end (s : ByteArray) (n : Nat) : recM s n n = recL s n := by unfold recM; rw [Nat.sub_self, List.replicate_zero, List.append_nil]
theorem recM_len (s : ByteArray) {n k : Nat} (h : k ≤ n) : (recM s n k).length = n := by unfold recM; rw [List.length_append, recL_len, List.length_replicate]; omega
theorem recM_set (s : ByteArray) {n k : Nat} (h : k < n) : (scells (recM s n k)).set k (.string (recS s k)) = scells (recM s n (k + 1)) := by
  unfold scells recM
  rw [recL_succ, show n - k = (n - (k + 1)) + 1 by omega, List.replicate_succ, List.map_append, List.map_append, List.map_append, List.append_assoc]
  rw [List.set_append_right _ _ (by rw [List.length_map, recL_len]; omega), List.length_map, recL_len, Nat.sub_self]
  rfl
theorem recR_cases {s : ByteArray} {n : Int} {L : List ByteArray} {z : Int} (h : recR s n = (L, z)) (hc : cleanB s = true) (h0 : 1 ≤ n) (h1 : n ≤ 16) : L = recL s n.toNat ∧ z = 0 := by
  unfold recR at h
  rw [hc, if_pos rfl, if_pos ⟨h0, h1⟩] at h
  obtain ⟨rfl, rfl⟩ := Prod.mk.inj h
  exact ⟨rfl, rfl⟩
set_option maxHeartbeats 4000000 in
theorem recovery_k (s : ByteArray) (n : Int) (L : List ByteArray) (z : Int) (w : World) (hs : s.size ≤ 900000) (b0 : -9223372036854775808 ≤ n) (b1 : n ≤ 9223372036854775807) (ho : PowOk w) (hx : recR s n = (L, z)) :
    Calls Tryd.prog 21 #[.string s, .int .i64 n] w fun e w' => ∃ ao cap, e = .returned (.tuple #[.slice ao L.length cap, .int .i64 z]) ∧ StrsAt w' ao L.length cap L ∧ Below w.heap.size w w' := by
  have HO := Lib.hid ho
  clear ho
  cases hc : cleanB s
  · have HC := Lib.hid hc
    unfold recR at hx
    rw [hc, if_neg (by decide)] at hx
    obtain ⟨rfl, rfl⟩ := Prod.mk.inj hx
    clear hc hx
    go_enter Tryd.func21, Tryd.ntmps21
    go_wp2_with fail
    refine (clean_k s false _ (by omega) HC.out).mono ?_
    rintro e w' ⟨rfl, rfl⟩
    go_wp2_with fail
    go_ret2
    exact ⟨none, 0, rfl, ⟨rfl, Nat.le_refl _, by unfold maxLen; omega, fun h => absurd h (Nat.lt_irrefl _)⟩, Below.refl _ _⟩
  · have HC := Lib.hid hc
    by_cases h0 : n < 1
    · unfold recR at hx
      rw [hc, if_pos rfl, if_neg (by omega)] at hx
      obtain ⟨rfl, rfl⟩ := Prod.mk.inj hx
      clear hc hx
      go_enter Tryd.func21, Tryd.ntmps21
      go_wp2_with fail
      refine (clean_k s true _ (by omega) HC.out).mono ?_
      rintro e w' ⟨rfl, rfl⟩
      go_wp2_with fail
      go_ret2
      exact ⟨none, 0, rfl, ⟨rfl, Nat.le_refl _, by unfold maxLen; omega, fun h => absurd h (Nat.lt_irrefl _)⟩, Below.refl _ _⟩
    · by_cases h1 : 16 < n
      · unfold recR at hx
        rw [hc, if_pos rfl, if_neg (by omega)] at hx
        obtain ⟨rfl, rfl⟩ := Prod.mk.inj hx
        clear hc hx
        have d1 : decide (16 < n) = true := decide_eq_true h1
        go_enter Tryd.func21, Tryd.ntmps21
        go_wp2_with fail
        refine (clean_k s true _ (by omega) HC.out).mono ?_
        rintro e w' ⟨rfl, rfl⟩
        go_wp2_with fail
        go_ret2
        exact ⟨none, 0, rfl, ⟨rfl, Nat.le_refl _, by unfold maxLen; omega, fun h => absurd h (Nat.lt_irrefl _)⟩, Below.refl _ _⟩
      · obtain ⟨rfl, rfl⟩ := recR_cases hx hc (by omega) (by omega)
        clear hx hc
        obtain ⟨m, rfl⟩ : ∃ m : Nat, n = (m : Int) := ⟨n.toNat, by omega⟩
        rw [Int.toNat_natCast]
        have hm1 : 1 ≤ m := by omega
        have hm2 : m ≤ 16 := by omega
        have d1 : decide ((16 : Int) < (m : Int)) = false := decide_eq_false h1
        obtain ⟨i0, hi0, hz0, hz1, hz2⟩ := info_parts info_string
        go_enter Tryd.func21, Tryd.ntmps21
        go_wp2_with fail
        refine (clean_k s true _ (by omega) HC.out).mono ?_
        rintro e w' ⟨rfl, rfl⟩
        go_wp2_with (at_make; go_loud (refine wpList_make_full _ rfl _ _ 35 rfl w.heap.size 9 i0 _ 1 Tryd.underlying35 hi0 hz0 hz1 .i64 .i64 (m : Int) (m : Int) m rfl rfl rfl rfl (by rw [hz2]; omega) (by unfold maxLen; omega) (Nat.le_refl _) ?_); intro w1 hown hg)
        have hb0 : Below w.heap.size w w1 := (Below.refl _ _).grown hg (Nat.le_refl _) (fun k hk => by cases hk)
        have hown0 : w1.ownsRow w.heap.size 9 1 (.slice (some ⟨w.heap.size, 0, none⟩) m m) m (scells (recM s m 0)) := by
          have e : (madeCells (Value.cells (.string ⟨#[]⟩)) (m * 1)).toList = scells (recM s m 0) := by
            rw [recM_zero, Nat.mul_one]
            show (madeCells #[.string ⟨#[]⟩] m).toList = _
            rw [toList_madeCells_one]; simp [scells]
          rw [← e]; exact hown
        clear hown hg
        go_loopw [23] (fun i wr => ∃ k : Nat, k ≤ m ∧ i = .int .i64 k ∧ wr.ownsRow w.heap.size 9 1 (.slice (some ⟨w.heap.size, 0, none⟩) m m) m (scells (recM s m k)) ∧ Hid (Below w.heap.size w wr))
          (fun i _ => m - (intOf i).toNat)
        case atStart => exact ⟨0, Nat.zero_le _, rfl, hown0, Lib.hid hb0⟩
        case round =>
          clear hown0 hb0
          obtain ⟨k, hk, rfl, hown, HB⟩ := hrel
          by_cases hlt : k < m
          · have hk16 : k ≤ 16 := by omega
            have HST := Lib.hid (recM_set s hlt)
            have hlen : k < (scells (recM s m k)).length := by unfold scells; rw [List.length_map, recM_len s hk]; exact hlt
            obtain ⟨u, hu⟩ : ∃ u, (scells (recM s m k))[k]? = some u := ⟨_, List.getElem?_eq_getElem hlen⟩
            have HU := Lib.hid hu
            clear hu hlen
            obtain ⟨x, hx⟩ : ∃ x, intS (k : Int) = x := ⟨_, rfl⟩
            have hxs : x.size ≤ 21 := by rw [← hx]; exact intS_size _ (by omega) (by omega)
            obtain ⟨q, hq⟩ : ∃ q, macS s ((⟨#[114, 101, 99, 111, 118, 101, 114, 121]⟩ : ByteArray) ++ x) = q := ⟨_, rfl⟩
            have hqs : q.size = 16 := by rw [← hq]; exact macS_size _ _
            have HE := Lib.hid (show recS s k = q.extract 0 10 by unfold recS recP; rw [hx, hq])
            have HX := Lib.hid hx
            have HQ := Lib.hid hq
            clear hx hq
            have hps : ((⟨#[114, 101, 99, 111, 118, 101, 114, 121]⟩ : ByteArray) ++ x).size ≤ 100 := by rw [ByteArray.size_append]; show 8 + x.size ≤ 100; omega
            go_wp2_with fail
            refine (oint_k k x _ (by omega) (by omega) (HO.out.below HB.out) HX.out).mono ?_
            rintro e w2 ⟨rfl, hb2⟩
            have hown2 := own_below hown hb2
            have HB := Lib.hid (HB.out.trans (hb2.mono HB.out.size))
            clear hown hb2
            go_wp2_with fail
            refine (mac_k s _ q _ (by omega) (by omega) (HO.out.below HB.out) HQ.out).mono ?_
            rintro e w3 ⟨rfl, hb3⟩
            have hown3 := own_below hown2 hb3
            have HB := Lib.hid (HB.out.trans (hb3.mono HB.out.size))
            clear hown2 hb3
            have c1 : w3.cell? ⟨w.heap.size, k, none⟩ = some u := (hown3.cellAt k (by omega)).trans HU.out
            have c2 : w3.frozen? ⟨w.heap.size, k, none⟩ = false := hown3.frozenAt k
            have hst := hown3.stored k (.string (q.extract 0 10))
            rw [← HE.out, HST.out, HE.out] at hst
            go_wp2_with fail
            go_roundw
            case rel => exact ⟨k + 1, by omega, by go_num, hst.1, Lib.hid (HB.out.setCell (p := ⟨w.heap.size, k, none⟩) (Nat.le_refl _) _)⟩
            case measure => simp [intOf]; omega
          · obtain rfl : k = m := by omega
            rw [recM_end] at hown
            obtain ⟨bo, dap, e1, hat⟩ := strs_own hown (recL_len s k)
            have HAT : Hid (StrsAt wr (some ⟨w.heap.size, 0, none⟩) k k (recL s k)) := Lib.hid (by cases e1; exact hat)
            clear hat e1
            go_wp2_with fail
            go_ret2
            refine ⟨some ⟨w.heap.size, 0, none⟩, k, ?_, ?_, HB.out⟩
            · rw [recL_len]; rfl
            · rw [recL_len]; exact HAT.out
set_option maxHeartbeats 4000000 in
theorem rrecovery_k (s : ByteArray) (n : Int) (L : List ByteArray) (z : Int) (w : World) (hs : s.size ≤ 900000) (b0 : -9223372036854775808 ≤ n) (b1 : n ≤ 9223372036854775807) (hx : recR s n = (L, z)) :
    Calls Tryd.prog 22 #[.string s, .int .i64 n] w fun e w' => ∃ ao cap, e = .returned (.tuple #[.slice ao L.length cap, .int .i64 z]) ∧ StrsAt w' ao L.length cap L ∧ Below w.heap.size w w' := by
  cases hc : cleanB s
  · have HC := Lib.hid hc
    unfold recR at hx
    rw [hc, if_neg (by decide)] at hx
    obtain ⟨rfl, rfl⟩ := Prod.mk.inj hx
    clear hc hx
    go_enter Tryd.func22, Tryd.ntmps22
    go_wp2_with fail
    refine (rclean_k s false _ (by omega) HC.out).mono ?_
    rintro e w' ⟨rfl, rfl⟩
    go_wp2_with fail
    go_ret2
    exact ⟨none, 0, rfl, ⟨rfl, Nat.le_refl _, by unfold maxLen; omega, fun h => absurd h (Nat.lt_irrefl _)⟩, Below.refl _ _⟩
  · have HC := Lib.hid hc
    by_cases h0 : n < 1
    · unfold recR at hx
      rw [hc, if_pos rfl, if_neg (by omega)] at hx
      obtain ⟨rfl, rfl⟩ := Prod.mk.inj hx
      clear hc hx
      go_enter Tryd.func22, Tryd.ntmps22
      go_wp2_with fail
      refine (rclean_k s true _ (by omega) HC.out).mono ?_
      rintro e w' ⟨rfl, rfl⟩
      go_wp2_with fail
      go_ret2
      exact ⟨none, 0, rfl, ⟨rfl, Nat.le_refl _, by unfold maxLen; omega, fun h => absurd h (Nat.lt_irrefl _)⟩, Below.refl _ _⟩
    · by_cases h1 : 16 < n
      · unfold recR at hx
        rw [hc, if_pos rfl, if_neg (by omega)] at hx
        obtain ⟨rfl, rfl⟩ := Prod.mk.inj hx
        clear hc hx
        go_enter Tryd.func22, Tryd.ntmps22
        go_wp2_with fail
        refine (rclean_k s true _ (by omega) HC.out).mono ?_
        rintro e w' ⟨rfl, rfl⟩
        go_wp2_with fail
        go_ret2
        exact ⟨none, 0, rfl, ⟨rfl, Nat.le_refl _, by unfold maxLen; omega, fun h => absurd h (Nat.lt_irrefl _)⟩, Below.refl _ _⟩
      · obtain ⟨rfl, rfl⟩ := recR_cases hx hc (by omega) (by omega)
        clear hx hc
        obtain ⟨m, rfl⟩ : ∃ m : Nat, n = (m : Int) := ⟨n.toNat, by omega⟩
        rw [Int.toNat_natCast]
        have hm1 : 1 ≤ m := by omega
        have hm2 : m ≤ 16 := by omega
        go_enter Tryd.func22, Tryd.ntmps22
        go_wp2_with fail
        refine (rclean_k s true _ (by omega) HC.out).mono ?_
        rintro e w' ⟨rfl, rfl⟩
        go_wp2_with fail
        go_loopw [6, 7] (fun v i wr => ∃ k : Nat, k ≤ m ∧ i = .int .i64 k ∧ Hid (wr.ownsRow w.heap.size 9 1 v k (scells (recL s k))) ∧ Hid (Below w.heap.size w wr))
          (fun _ i _ => m - (intOf i).toNat)
        case atStart => exact ⟨0, Nat.zero_le _, rfl, Lib.hid (World.ownsRow_nil _ _ _ _), Lib.hid (Below.refl _ _)⟩
        case round =>
          rename_i v
          obtain ⟨k, hk, rfl, HW, HB⟩ := hrel
          by_cases hlt : k < m
          · have hk16 : k ≤ 16 := by omega
            obtain ⟨x, hx⟩ : ∃ x, intS (k : Int) = x := ⟨_, rfl⟩
            have hxs : x.size ≤ 21 := by rw [← hx]; exact intS_size _ (by omega) (by omega)
            obtain ⟨q, hq⟩ : ∃ q, macS s ((⟨#[114, 101, 99, 111, 118, 101, 114, 121]⟩ : ByteArray) ++ x) = q := ⟨_, rfl⟩
            have hqs : q.size = 16 := by rw [← hq]; exact macS_size _ _
            have HE := Lib.hid (show scells (recL s k) ++ [Value.string (q.extract 0 10)] = scells (recL s (k + 1)) by
              rw [recL_succ, scells_snoc, show recS s k = q.extract 0 10 by unfold recS recP; rw [hx, hq]])
            have HX := Lib.hid hx
            have HQ := Lib.hid hq
            clear hx hq
            have hps : ((⟨#[114, 101, 99, 111, 118, 101, 114, 121]⟩ : ByteArray) ++ x).size ≤ 100 := by rw [ByteArray.size_append]; show 8 + x.size ≤ 100; omega
            have hq16 : min (q.size : Int) 10 = 10 := by omega
            go_wp2_with fail
            refine (rint_k k x _ (by omega) (by omega) HX.out).mono ?_
            rintro e w2 ⟨rfl, hb2⟩
            have HW := Lib.hid (own_below HW.out hb2)
            have HB := Lib.hid (HB.out.trans (hb2.mono HB.out.size))
            clear hb2
            go_wp2_with fail
            refine (rmac_k s _ q _ (by omega) (by omega) HQ.out).mono ?_
            rintro e w' ⟨rfl, rfl⟩
            go_wp2_with (at_builtin; refine push_str _ HW.out (.tmp 28) (.tmp 34) (q.extract 0 10) ?_ ?_ ?_ ?_ ?_ ?_ ?_; exact rfl; exact rfl; exact rfl; exact rfl; omega; exact HB.out.size; intro v3 w3 hown3 hb3)
            rw [HE.out] at hown3
            have HW3 := Lib.hid hown3
            have HB3 := Lib.hid (HB.out.trans hb3)
            clear hown3 hb3
            go_wp2_with fail
            go_roundw
            case rel => exact ⟨k + 1, by omega, by go_num, HW3, HB3⟩
            case measure => simp [intOf]; omega
          · obtain rfl : k = m := by omega
            obtain ⟨bo, dap, e1, hat⟩ := strs_own HW.out (recL_len s k)
            have HAT : Hid (StrsAt wr bo k dap (recL s k)) := Lib.hid hat
            subst e1
            clear hat
            go_wp2_with fail
            go_ret2
            refine ⟨bo, dap, ?_, ?_, HB.out⟩
            · rw [recL_len]; rfl
            · rw [recL_len]; exact HAT.out
end Go.Proofs.YtmkcojgdhdmnnaaDoor
