/-
  Contracts of the helpers of otp's laws: count, short, fits, typed. Condition: at most 1000000 strings.
-/
import Derived.Test.YtmkcojgdhdmnnaaDoorOtpG
import Derived.Test.YtmkcojgdhdmnnaaDoorOtpTry
set_option maxRecDepth 100000
set_option linter.unusedVariables false
set_option linter.unusedSimpArgs false
set_option linter.unnecessarySimpa false
namespace Go.Proofs.YtmkcojgdhdmnnaaDoor
open Go.RowKit Go.PlainAid

theorem cntL_le (l : List ByteArray) (c : ByteArray) : cntL l c ≤ l.length := by
  induction l with
  | nil => exact Nat.le_refl _
  | cons x l ih => simp only [cntL, List.length_cons]; split <;> omega
set_option maxHeartbeats 2000000 in
theorem count_k (ao : Option Addr) (n cap : Nat) (l : List ByteArray) (c : ByteArray) (r : Nat) (w : World) (h : StrsAt w ao n cap l) (hx : cntL l c = r) :
    Calls Tryd.prog 28 #[.slice ao n cap, .string c] w fun e w' => e = .returned (.int .i64 r) ∧ w = w' := by
  have H := Lib.hid h
  obtain ⟨h1, h2, h3, _⟩ := h
  subst h1
  unfold maxLen at h3
  have HX := Lib.hid hx
  clear hx
  go_enter Tryd.func28, Tryd.ntmps28
  go_wp2_with fail
  go_loopw [5, 6] (fun v i wr => ∃ k q : Nat, k ≤ l.length ∧ i = .int .i64 k ∧ v = .int .i64 q ∧ Hid (cntL (l.take k) c = q) ∧ wr = w) (fun _ i _ => l.length - (intOf i).toNat)
  case atStart => exact ⟨0, 0, Nat.zero_le _, rfl, rfl, Lib.hid rfl, rfl⟩
  case round =>
    obtain ⟨k, q, hk, rfl, rfl, HN, rfl⟩ := hrel
    have hq : q ≤ k := by rw [← HN.out]; exact Nat.le_trans (cntL_le _ _) (by rw [List.length_take]; omega)
    by_cases hlt : k < l.length
    · obtain ⟨b, off, rfl, hbw, hcells⟩ := H.out.at (by omega)
      have hcell := hcells _ (Below.refl _ _) k hlt
      clear hcells
      obtain ⟨p, hp⟩ : ∃ p, partAt l k = p := ⟨_, rfl⟩
      have hpe : l[k] = p := by rw [← part_get hlt]; exact hp
      rw [hp] at hcell
      have hs := cntL_take l c k hlt
      rw [hpe, HN.out] at hs
      by_cases e : p = c
      · have d1 : (p.toList == c.toList) = true := by rw [str_eq]; exact decide_eq_true e
        rw [if_pos e] at hs
        have HN1 := Lib.hid hs
        clear e hp hs hpe
        go_wp2_with fail
        go_roundw
        case rel => exact ⟨k + 1, q + 1, by omega, by go_num, by go_num, HN1, (by first | trivial | rfl)⟩
        case measure => simp [intOf]; omega
      · have d1 : (p.toList == c.toList) = false := by rw [str_eq]; exact decide_eq_false e
        rw [if_neg e, Nat.add_zero] at hs
        have HN1 := Lib.hid hs
        clear e hp hs hpe
        go_wp2_with fail
        go_roundw
        case rel => exact ⟨k + 1, q, by omega, by go_num, rfl, HN1, (by first | trivial | rfl)⟩
        case measure => simp [intOf]; omega
    · obtain rfl : k = l.length := by omega
      have HE := Lib.hid (show r = q by rw [← HX.out, ← HN.out, List.take_length])
      go_wp2_with fail
      go_ret
      exact ⟨by rw [HE.out]; rfl, rfl⟩
/-- at most 20 strings of at most 100 bytes -/
def shB (l : List ByteArray) : Bool := l.all (fun x => decide (x.size ≤ 100)) && decide (l.length ≤ 20)
theorem shB_len {l : List ByteArray} (h : shB l = true) : l.length ≤ 20 ∧ ∀ j, j < l.length → (partAt l j).size ≤ 100 := by
  unfold shB at h
  rw [Bool.and_eq_true, decide_eq_true_eq, List.all_eq_true] at h
  exact ⟨h.2, fun j hj => by rw [part_get hj]; exact of_decide_eq_true (h.1 _ (List.getElem_mem hj))⟩
set_option maxHeartbeats 2000000 in
theorem short_k (ao : Option Addr) (n cap : Nat) (l : List ByteArray) (r : Bool) (w : World) (h : StrsAt w ao n cap l) (hx : shB l = r) :
    Calls Tryd.prog 20 #[.slice ao n cap] w fun e w' => e = .returned (.bool r) ∧ w = w' := by
  have H := Lib.hid h
  obtain ⟨h1, h2, h3, _⟩ := h
  subst h1
  unfold maxLen at h3
  have HX := Lib.hid hx
  clear hx
  go_enter Tryd.func20, Tryd.ntmps20
  go_wp2_with fail
  go_loopw [3] (fun i wr => ∃ k : Nat, k ≤ l.length ∧ i = .int .i64 k ∧ Hid (∀ j, j < k → (partAt l j).size ≤ 100) ∧ wr = w) (fun i _ => l.length - (intOf i).toNat)
  case atStart => exact ⟨0, Nat.zero_le _, rfl, Lib.hid fun j hj => absurd hj (Nat.not_lt_zero _), rfl⟩
  case round =>
    obtain ⟨k, hk, rfl, HN, rfl⟩ := hrel
    by_cases hlt : k < l.length
    · obtain ⟨b, off, rfl, hbw, hcells⟩ := H.out.at (by omega)
      have hcell := hcells _ (Below.refl _ _) k hlt
      clear hcells
      obtain ⟨p, hp⟩ : ∃ p, partAt l k = p := ⟨_, rfl⟩
      rw [hp] at hcell
      by_cases e : 100 < p.size
      · have d1 : (100 : Int) < (p.size : Int) := by omega
        have HE := Lib.hid (show r = false by
          rw [← HX.out]
          cases hh : shB l
          · rfl
          · have := (shB_len hh).2 k hlt
            rw [hp] at this; omega)
        clear hp
        go_wp2_with fail
        go_ret
        exact ⟨by rw [HE.out]; rfl, rfl⟩
      · have d1 : ¬ (100 : Int) < (p.size : Int) := by omega
        have HN1 : Hid (∀ j, j < k + 1 → (partAt l j).size ≤ 100) := Lib.hid fun j hj => if q : j = k then by rw [q, hp]; omega else HN.out j (by omega)
        clear hp
        go_wp2_with fail
        go_roundw
        case rel => exact ⟨k + 1, by omega, by go_num, HN1, (by first | trivial | rfl)⟩
        case measure => simp [intOf]; omega
    · obtain rfl : k = l.length := by omega
      have ha : l.all (fun x => decide (x.size ≤ 100)) = true := by
        rw [List.all_eq_true]
        intro x hxm
        obtain ⟨j, hj, rfl⟩ := List.mem_iff_getElem.1 hxm
        have := HN.out j hj
        rw [part_get hj] at this
        exact decide_eq_true this
      by_cases h20 : l.length ≤ 20
      · have d1 : decide ((l.length : Int) ≤ 20) = true := decide_eq_true (by omega)
        have HE := Lib.hid (show r = true by rw [← HX.out]; unfold shB; rw [ha, decide_eq_true h20]; rfl)
        clear h20 ha
        go_wp2_with fail
        go_ret
        exact ⟨by rw [HE.out]; rfl, rfl⟩
      · have d1 : decide ((l.length : Int) ≤ 20) = false := decide_eq_false (by omega)
        have HE := Lib.hid (show r = false by rw [← HX.out]; unfold shB; rw [decide_eq_false h20, Bool.and_false])
        clear h20 ha
        go_wp2_with fail
        go_ret
        exact ⟨by rw [HE.out]; rfl, rfl⟩
/-- a case has strings of at most 300 bytes -/
def fitB (x : Tr) : Bool := decide (x.sec.size ≤ 300) && decide (x.code.size ≤ 300)
set_option maxHeartbeats 2000000 in
theorem fits_l (x : Tr) (r : Bool) (w : World) (hx : fitB x = r) :
    Calls Tryd.prog 14 #[tV x] w fun e w' => e = .returned (.bool r) ∧ Below w.heap.size w w' := by
  obtain ⟨sec, code, last, look, now, k, near⟩ := x
  unfold fitB at hx
  dsimp only at hx
  unfold tV tcells
  have HB := Lib.hid (box_below w (tB ⟨sec, code, last, look, now, k, near⟩))
  unfold tB tcells at HB
  by_cases h1 : sec.size ≤ 300
  · have d1 : decide ((sec.size : Int) ≤ 300) = true := decide_eq_true (by omega)
    by_cases h2 : code.size ≤ 300
    · have d2 : decide ((code.size : Int) ≤ 300) = true := decide_eq_true (by omega)
      have HE := Lib.hid (show r = true by rw [← hx, decide_eq_true h1, decide_eq_true h2]; rfl)
      clear h1 h2 hx
      go_enter Tryd.func14, Tryd.ntmps14
      go_wp2_with fail
      go_ret
      exact ⟨by rw [HE.out]; rfl, HB.out⟩
    · have d2 : decide ((code.size : Int) ≤ 300) = false := decide_eq_false (by omega)
      have HE := Lib.hid (show r = false by rw [← hx, decide_eq_false h2, Bool.and_false])
      clear h1 h2 hx
      go_enter Tryd.func14, Tryd.ntmps14
      go_wp2_with fail
      go_ret
      exact ⟨by rw [HE.out]; rfl, HB.out⟩
  · have d1 : decide ((sec.size : Int) ≤ 300) = false := decide_eq_false (by omega)
    have HE := Lib.hid (show r = false by rw [← hx, decide_eq_false h1]; rfl)
    clear h1 hx
    go_enter Tryd.func14, Tryd.ntmps14
    go_wp2_with fail
    go_ret
    exact ⟨by rw [HE.out]; rfl, HB.out⟩
/-- the code of a case -/
def typS (x : Tr) : ByteArray := if x.near then (codR x.sec (max 0 (min x.last 1099511627776) + x.k.tmod 20)).1 else x.code
theorem codR_size (s : ByteArray) (c : Int) : (codR s c).1.size ≤ 6 := by
  unfold codR
  split
  · split
    · exact Nat.le_of_eq (codeS_size s c)
    · exact Nat.zero_le _
  · exact Nat.zero_le _
theorem typS_size {x : Tr} (h : fitB x = true) : (typS x).size ≤ 300 := by
  unfold fitB at h
  rw [Bool.and_eq_true, decide_eq_true_eq, decide_eq_true_eq] at h
  unfold typS
  split
  · have := codR_size x.sec (max 0 (min x.last 1099511627776) + x.k.tmod 20); omega
  · exact h.2
theorem tmod_bd (k : Int) : -20 < k.tmod 20 ∧ k.tmod 20 < 20 := by
  have h1 := Int.tmod_lt_of_pos k (b := 20) (by decide)
  have h2 := Int.lt_tmod_of_pos k (b := 20) (by decide)
  omega
set_option maxHeartbeats 2000000 in
theorem typed_l (x : Tr) (r : ByteArray) (w : World) (hs : x.sec.size ≤ 300) (hx : typS x = r) :
    Calls Tryd.prog 15 #[tV x] w fun e w' => e = .returned (.string r) ∧ Below w.heap.size w w' := by
  obtain ⟨sec, code, last, look, now, k, near⟩ := x
  unfold typS at hx
  dsimp only at hx hs
  unfold tV tcells
  have HB := Lib.hid (box_below w (tB ⟨sec, code, last, look, now, k, near⟩))
  unfold tB tcells at HB
  cases near
  · rw [if_neg (by decide)] at hx
    subst hx
    go_enter Tryd.func15, Tryd.ntmps15
    go_wp2_with fail
    go_ret
    exact ⟨rfl, HB.out⟩
  · rw [if_pos rfl] at hx
    obtain ⟨u, hu⟩ : ∃ u, min last 1099511627776 = u := ⟨_, rfl⟩
    obtain ⟨v, hv⟩ : ∃ v, max 0 u = v := ⟨_, rfl⟩
    obtain ⟨m, hm⟩ : ∃ m, k.tmod 20 = m := ⟨_, rfl⟩
    have hmb := tmod_bd k
    rw [hm] at hmb
    obtain ⟨hm0, hm1⟩ := hmb
    have hv0 : 0 ≤ v := by omega
    have hv1 : v ≤ 1099511627776 := by omega
    rw [hu, hv, hm] at hx
    have HC := Lib.hid (show codR sec (v + m) = (r, (codR sec (v + m)).2) by rw [← hx])
    generalize (codR sec (v + m)).2 = z at HC
    clear hx
    go_enter Tryd.func15, Tryd.ntmps15
    go_wp2_with fail
    refine (rcode_k sec (v + m) r z _ (by omega) (by omega) (by omega) HC.out).mono ?_
    rintro e w1 ⟨rfl, hb⟩
    have HB := Lib.hid (HB.out.trans (hb.mono HB.out.size))
    clear hb
    go_wp2_with fail
    go_ret
    exact ⟨rfl, HB.out⟩
theorem lists_k (ao bo : Option Addr) (n m cap dap : Nat) (ps qs : List ByteArray) (r : Bool) (w : World) (h : StrsAt w ao n cap ps) (k : StrsAt w bo m dap qs) (hx : decide (ps = qs) = r) :
    Calls Tryd.prog 25 #[.slice ao n cap, .slice bo m dap] w fun e w' => e = .returned (.bool r) ∧ Below w.heap.size w w' := by
  subst hx; exact lists_s ao bo n m cap dap ps qs w h k
end Go.Proofs.YtmkcojgdhdmnnaaDoor
