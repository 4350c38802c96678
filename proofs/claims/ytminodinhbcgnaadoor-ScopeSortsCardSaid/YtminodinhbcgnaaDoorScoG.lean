/-
  Contracts of chosen and Within of the program; covers and Within of the specification. Condition: lists of at most 5000 strings of at most 1000000 bytes.
-/
import Derived.Test.YtminodinhbcgnaaDoorScoF
set_option maxRecDepth 100000
set_option linter.unusedVariables false
set_option linter.unusedSimpArgs false
set_option linter.unnecessarySimpa false
namespace Go.Proofs.YtminodinhbcgnaaDoor
open Go.RowKit Go.PlainAid Go.Maps Go.ChangeShapes Go.WideShapes Go.ChangeAt

theorem row_mono {w : World} {base lo k n : Nat} {e : TypeId} {v : Value} {xs : List Value} (h : w.ownsRow base e k v n xs) (hl : lo ≤ base) : w.ownsRow lo e k v n xs := by
  obtain ⟨h1, h2⟩ := h
  refine ⟨h1, ?_⟩
  rcases h2 with h2 | ⟨g, cap, cur, rfl, h3, h4, h5⟩
  · exact .inl h2
  · exact .inr ⟨g, cap, cur, rfl, Nat.le_trans hl h3, h4, h5⟩

theorem run_store_fn (w : World) (a : Addr) (f : Fn) (cs bs : Array Value) (m : Mode) : (store a (.func f cs bs) m).run Tryd.prog w = stored Tryd.prog w a (.func f cs bs) m := run_store _ w a _ m rfl
def fB (im : Bool) : Obj := .cells #[.bool im] 4
def fM (g : Nat) : Obj := .cells #[.map (some g)] 42
def fF (bx : Nat) : Obj := .cells #[.func (.func 55) #[] #[.pointer (some ⟨bx, 0, none⟩)]] 41
set_option maxHeartbeats 8000000 in
theorem chosen_k (ao bo : Option Addr) (n m cap dap : Nat) (a b : List ByteArray) (im : Bool) (f : ByteArray → Bool) (L : List ByteArray) (w : World) (ha : StrsAt w ao n cap a) (hb : StrsAt w bo m dap b) (sa : SmS a) (sb : SmS b) (ho : MaxOk w) (hf : f = fun s => cov b s != im) (hL : (a.filter fun s => !f s) = L) :
    Calls Tryd.prog 40 #[.slice ao n cap, .slice bo m dap, .bool im] w fun e w' => ∃ v, e = .returned v ∧ w'.ownsRow w.heap.size 9 1 v L.length (scells L) ∧ Below w.heap.size w w' := by
  have hb0 := box_below w (.cells #[.bool im] 4)
  have HS := Lib.hid (scopes_k bo m dap b _ (StrsAt.below hb hb0) sb (ho.step hb0))
  have HK5 := Lib.hid (kbc_new w (.cells #[.bool im] 4))
  have HB0 := Lib.hid hb0
  have HA := Lib.hid ha
  have HO := Lib.hid ho
  have HF := Lib.hid hf
  have HL := Lib.hid hL
  have hn : n ≤ 5000 := by rw [← ha.1]; exact sa.1
  have HSa := Lib.hid (fun s (hs : s ∈ a) => sms_in sa hs)
  have HN := Lib.hid ha.1
  clear hb0 ha hb sa sb ho hf hL
  go_enter Tryd.func40, Tryd.ntmps40
  go_wp2_with fail
  refine HS.out.mono ?_
  rintro e w1 ⟨rfl, ⟨mm, hmm, hM⟩, hb1⟩
  rw [World.size_alloc] at hM hb1
  have hz1 : w.heap.size + 1 ≤ w1.heap.size := by have := hb1.size; rw [World.size_alloc] at this; exact this
  have HK1 := Lib.hid (HK5.out.keep hb1 (show w.heap.size < w.heap.size + 1 by omega))
  have HM := Lib.hid hM
  have HB1 := Lib.hid (HB0.out.trans (hb1.mono (show w.heap.size ≤ w.heap.size + 1 by omega)))
  clear hM hb1
  obtain ⟨W3, hW3⟩ : ∃ W, (w1.alloc (.cells #[.map (some (w.heap.size + 1))] 42)).alloc (.cells #[.func (.func 55) #[] #[.pointer (some ⟨w1.heap.size, 0, none⟩)]] 41) = W := ⟨_, rfl⟩
  have HC : Hid (∀ W, W = W3 → StrsAt W ao n cap a → Calls Tryd.prog 59 #[.slice ao n cap] W fun e w' => ∃ v', e = .returned v' ∧ w'.ownsRow W3.heap.size 9 1 v' n (scells a) ∧ Below W3.heap.size W3 w') := Lib.hid (fun W e h => by subst e; exact clone_k ao n cap a W h (by omega))
  have hzs : W3.heap.size = w1.heap.size + 2 := by rw [← hW3, World.size_alloc, World.size_alloc]
  have hba : Below w1.heap.size w1 W3 := by rw [← hW3]; exact ((Below.refl _ _).alloc (Nat.le_refl _) _).alloc (by rw [World.size_alloc]; omega) _
  have HBx := Lib.hid (show KbC W3 w1.heap.size (.cells #[.map (some (w.heap.size + 1))] 42) by
    rw [← hW3]
    exact (kbc_new w1 _).step (box_below _ _))
  have HB8 := Lib.hid (show KbC W3 (w1.heap.size + 1) (.cells #[.func (.func 55) #[] #[.pointer (some ⟨w1.heap.size, 0, none⟩)]] 41) by
    rw [← hW3]
    have := kbc_new (w1.alloc (.cells #[.map (some (w.heap.size + 1))] 42)) (.cells #[.func (.func 55) #[] #[.pointer (some ⟨w1.heap.size, 0, none⟩)]] 41)
    rw [World.size_alloc] at this
    exact this)
  have HK3 := Lib.hid (HK1.out.step hba)
  have HM3 := Lib.hid (HM.out.keep (hba.block _ HM.out.lt))
  have HB3 := Lib.hid (HB1.out.trans (hba.mono (show w.heap.size ≤ w1.heap.size by omega)))
  have HO3 := Lib.hid (HO.out.step HB3.out)
  have HA3 := Lib.hid (StrsAt.below HA.out HB3.out)
  have HP : Hid (∀ (W : World) (p : ByteArray), p.size ≤ 1000000 → Below W3.heap.size W3 W → Calls Tryd.prog 56 #[.string p, .pointer (some ⟨w1.heap.size + 1, 0, none⟩), .pointer (some ⟨w.heap.size, 0, none⟩)] W fun e w' => e = .returned (.bool (f p)) ∧ Below W.heap.size W w') := Lib.hid (fun W p hp hW =>
    other_k (w1.heap.size + 1) w.heap.size w1.heap.size (w.heap.size + 1) mm b im p (f p) W (HB8.out.step hW) (HK3.out.step hW) (HBx.out.step hW) (HM3.out.keep (hW.block _ HM3.out.lt)) hp (HO3.out.step hW) (by rw [HF.out]))
  clear hba HK1 HM HB1 HBx HB8 HK3 HM3 HS HK5
  have HW3 := Lib.hid hW3
  clear hW3
  go_wp2_with fail
  rw [run_store_fn]
  go_simp
  go_wp2_with fail
  refine (HC.out _ (by exact HW3.out) (by first | exact HA3.out | (rw [HW3.out]; exact HA3.out))).mono ?_
  rintro e w4 ⟨v4, rfl, hown, hb4⟩
  clear HC
  rcases hown.2 with ⟨rfl, hx⟩ | ⟨g, cap', cur, rfl, hg0, hg, _, _, _, _⟩
  · have hl0 : a = [] := by
      have h1 := HN.out
      have : n = 0 := by first | exact hx | omega | (have := hown.1; simp at this; omega)
      exact List.length_eq_zero_iff.1 (by omega)
    have HX := Lib.hid (show L = [] by rw [← HL.out, hl0]; rfl)
    have HB4 := Lib.hid (HB3.out.trans (hb4.mono (show w.heap.size ≤ W3.heap.size by omega)))
    have HOw := Lib.hid (own_nil w4 w.heap.size)
    clear hown hb4 hl0 hx
    go_wp2_with fail
    refine (delnil_k _ _).mono ?_
    rintro e w5 ⟨rfl, rfl⟩
    go_wp2_with fail
    go_ret
    exact ⟨_, rfl, by rw [HX.out]; exact HOw.out, HB4.out⟩
  · have HD := Lib.hid (delo_k W3.heap.size g n cap' (w1.heap.size + 1) w.heap.size f a W3 w4 hown HN.out hn HSa.out hb4 hb4.size hg0 HP)
    rw [HL.out] at HD
    clear hown hb4 hg0 hg HP
    go_wp2_with fail
    refine HD.out.mono ?_
    rintro e w5 ⟨m5, rfl, hown5, hb5⟩
    have hm5 : L.length = m5 := by have := hown5.1; rw [scells_len] at this; omega
    have HO5 := Lib.hid (row_mono hown5 (show w.heap.size ≤ W3.heap.size by omega))
    have HB5 := Lib.hid (HB3.out.trans (hb5.mono (show w.heap.size ≤ W3.heap.size by omega)))
    have HM5 := Lib.hid hm5
    clear hown5 hb5 hm5
    go_wp2_with fail
    go_ret
    exact ⟨_, rfl, by rw [HM5.out]; exact HO5.out, HB5.out⟩
theorem flt_covN (a b : List ByteArray) : (a.filter fun s => !(cov b s != false)) = a.filter (covN b) := List.filter_congr fun s _ => by unfold covN; cases cov b s <;> rfl
theorem flt_cov (a b : List ByteArray) : (a.filter fun s => !(cov b s != true)) = a.filter (cov b) := List.filter_congr fun s _ => by cases cov b s <;> rfl
set_option maxHeartbeats 4000000 in
theorem within_k (ao bo : Option Addr) (n m cap dap : Nat) (a b : List ByteArray) (r : Bool) (w : World) (ha : StrsAt w ao n cap a) (hb : StrsAt w bo m dap b) (sa : SmS a) (sb : SmS b) (ho : MaxOk w) (hr : wthn a b = r) :
    Calls Tryd.prog 23 #[.slice ao n cap, .slice bo m dap] w fun e w' => e = .returned (.bool r) ∧ Below w.heap.size w w' := by
  have HC := Lib.hid (chosen_k ao bo n m cap dap a b false _ _ w ha hb sa sb ho rfl (flt_covN a b))
  have hx := wthn_none a b
  obtain ⟨L, hL⟩ : ∃ L, a.filter (covN b) = L := ⟨_, rfl⟩
  rw [hL] at hx HC
  have hz : decide ((L.length : Int) = 0) = r := by
    rw [← hr, Bool.eq_iff_iff, decide_eq_true_eq, ← hx]; omega
  have hz2 : ((L.length : Int) == 0) = r := by
    rw [← hz, Bool.eq_iff_iff, beq_iff_eq, decide_eq_true_eq]
  have HZ2 := Lib.hid hz2
  clear ha hb sa sb ho hr hx hL hz hz2
  go_enter Tryd.func23, Tryd.ntmps23
  go_wp2_with fail
  refine HC.out.mono ?_
  rintro e w1 ⟨v1, rfl, hown, hb1⟩
  have HB1 := Lib.hid hb1
  obtain ⟨ao1, cap1, rfl, hat⟩ := strs_own hown rfl
  clear hown hb1 hat
  go_wp2_with fail
  go_ret
  exact ⟨by rw [← HZ2.out]; rfl, HB1.out⟩

/-! ### the specification's covers, Within -/
set_option maxHeartbeats 4000000 in
theorem rcovers_k (ao : Option Addr) (n cap : Nat) (l : List ByteArray) (s : ByteArray) (r : Bool) (w : World) (h : StrsAt w ao n cap l) (hs : SmS l) (hz : s.size ≤ 1000000) (hr : cov l s = r) :
    Calls Tryd.prog 41 #[.slice ao n cap, .string s] w fun e w' => e = .returned (.bool r) ∧ w = w' := by
  obtain ⟨h1, h2, h3, h4⟩ := h
  subst h1
  unfold maxLen at h3
  have H4 := Lib.hid h4; clear h4
  have HR := Lib.hid hr; clear hr
  have HS := Lib.hid hs.2
  clear hs
  go_enter Tryd.func41, Tryd.ntmps41
  go_wp2
  go_loop [5] (fun i => ∃ k : Nat, k ≤ l.length ∧ i = .int .i64 k ∧ Hid (∀ j, j < k → imp (partAt l j) s = false)) (fun i => l.length - (intOf i).toNat)
  case atStart => exact ⟨0, Nat.zero_le _, rfl, Lib.hid (fun j hj => absurd hj (Nat.not_lt_zero _))⟩
  case round =>
    obtain ⟨k, hk, rfl, HA⟩ := hrel
    by_cases hlt : k < l.length
    · obtain ⟨b, off, rfl, hs⟩ := H4.out (by omega)
      have hcell := hs.2 k hlt
      clear hs
      obtain ⟨p, hpe⟩ : ∃ p, p = partAt l k := ⟨_, rfl⟩
      rw [← hpe] at hcell
      have HP := Lib.hid hpe
      have hzp : p.size ≤ 1000000 := by rw [hpe]; exact HS.out k hlt
      clear hpe
      have d1 : (k : Int) < (l.length : Int) := by omega
      obtain ⟨y, hy⟩ : ∃ y, imp p s = y := ⟨_, rfl⟩
      have HC := Lib.hid (rimplies_k p s y w hzp hz hy)
      cases y with
      | true =>
        have HE := Lib.hid (show r = true by rw [← HR.out]; exact cov_iff.2 ⟨_, part_mem l k hlt, by rw [← HP.out]; exact hy⟩)
        clear hy
        go_wp2_with fail
        refine HC.out.mono ?_
        rintro e w' ⟨rfl, rfl⟩
        go_wp2_with fail
        go_ret
        exact ⟨by rw [HE.out]; rfl, rfl⟩
      | false =>
        have HN := Lib.hid hy
        clear hy
        go_wp2_with fail
        refine HC.out.mono ?_
        rintro e w' ⟨rfl, rfl⟩
        go_wp2_with fail
        go_round
        case rel =>
          refine ⟨k + 1, by omega, by go_num, Lib.hid fun j hj => ?_⟩
          by_cases e : j = k
          · rw [e, ← HP.out]; exact HN.out
          · exact HA.out j (by omega)
        case measure => simp [intOf]; omega
    · have HE := Lib.hid (show r = false by
        rw [← HR.out]
        exact fstI_none (f := fun t => imp t s) fun j hj => HA.out j (by omega))
      have d1 : ¬ (k : Int) < (l.length : Int) := by omega
      go_wp2_with fail
      go_ret
      exact ⟨by rw [HE.out]; rfl, rfl⟩
set_option maxHeartbeats 4000000 in
theorem rwithin_k (ao bo : Option Addr) (n m cap dap : Nat) (a l : List ByteArray) (r : Bool) (w : World) (ha : StrsAt w ao n cap a) (hb : StrsAt w bo m dap l) (sa : SmS a) (sb : SmS l) (hr : wthn a l = r) :
    Calls Tryd.prog 24 #[.slice ao n cap, .slice bo m dap] w fun e w' => e = .returned (.bool r) ∧ w = w' := by
  obtain ⟨h1, h2, h3, h4⟩ := ha
  subst h1
  unfold maxLen at h3
  have H4 := Lib.hid h4; clear h4
  have HR := Lib.hid hr; clear hr
  have HS := Lib.hid sa.2
  have HC := Lib.hid (fun s y hz hy => rcovers_k bo m dap l s y w hb sb hz hy)
  clear sa sb hb
  go_enter Tryd.func24, Tryd.ntmps24
  go_wp2
  go_loop [5] (fun i => ∃ k : Nat, k ≤ a.length ∧ i = .int .i64 k ∧ Hid (∀ j, j < k → cov l (partAt a j) = true)) (fun i => a.length - (intOf i).toNat)
  case atStart => exact ⟨0, Nat.zero_le _, rfl, Lib.hid (fun j hj => absurd hj (Nat.not_lt_zero _))⟩
  case round =>
    obtain ⟨k, hk, rfl, HA⟩ := hrel
    by_cases hlt : k < a.length
    · obtain ⟨b, off, rfl, hs⟩ := H4.out (by omega)
      have hcell := hs.2 k hlt
      clear hs
      obtain ⟨p, hpe⟩ : ∃ p, p = partAt a k := ⟨_, rfl⟩
      rw [← hpe] at hcell
      have HP := Lib.hid hpe
      have hzp : p.size ≤ 1000000 := by rw [hpe]; exact HS.out k hlt
      clear hpe
      have d1 : (k : Int) < (a.length : Int) := by omega
      obtain ⟨y, hy⟩ : ∃ y, cov l p = y := ⟨_, rfl⟩
      have HCc := Lib.hid (HC.out p y hzp hy)
      cases y with
      | false =>
        have HE := Lib.hid (show r = false by
          rw [← HR.out, Bool.eq_false_iff]
          intro h
          have := wthn_iff.1 h _ (part_mem a k hlt)
          rw [← HP.out, hy] at this; cases this)
        clear hy
        go_wp2_with fail
        refine HCc.out.mono ?_
        rintro e w' ⟨rfl, rfl⟩
        go_wp2_with fail
        go_ret
        exact ⟨by rw [HE.out]; rfl, rfl⟩
      | true =>
        have HN := Lib.hid hy
        clear hy
        go_wp2_with fail
        refine HCc.out.mono ?_
        rintro e w' ⟨rfl, rfl⟩
        go_wp2_with fail
        go_round
        case rel =>
          refine ⟨k + 1, by omega, by go_num, Lib.hid fun j hj => ?_⟩
          by_cases e : j = k
          · rw [e, ← HP.out]; exact HN.out
          · exact HA.out j (by omega)
        case measure => simp [intOf]; omega
    · have HE := Lib.hid (show r = true by
        rw [← HR.out]
        refine wthn_iff.2 fun s hs => ?_
        obtain ⟨j, hj, rfl⟩ := List.getElem_of_mem hs
        rw [← part_get hj]
        exact HA.out j (by omega))
      have d1 : ¬ (k : Int) < (a.length : Int) := by omega
      go_wp2_with fail
      go_ret
      exact ⟨by rw [HE.out]; rfl, rfl⟩

end Go.Proofs.YtminodinhbcgnaaDoor
