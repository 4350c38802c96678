/-
  Proved: identitylaw19.JournalChanged returns true for every string, every int and every byte (the tied card). No condition beyond the row's own.
-/
import Derived.Test.YtafecnaeoeanmaaDoorJouW
set_option linter.unusedVariables false
set_option linter.unusedSimpArgs false
set_option linter.unnecessarySimpa false
namespace Go.Proofs.YtafecnaeoeanmaaDoor
open Go.ChangeShapes Go.WideShapes Go.ChangeAt Go.RowKit Go.PlainAid
open Go.ChangeMaps (open_string shut_string)

theorem encL_at (p r : List UInt8) (a : UInt8) (n : Nat) (hn : (p ++ [a] ++ r).length = n) : encL (p ++ [a] ++ r) = (Lib.decDigits n ++ 58 :: p) ++ (a :: (r ++ (txtL (p ++ [a] ++ r) ++ [10]))) := by
  subst hn
  unfold encL
  generalize txtL (p ++ [a] ++ r) = x
  generalize Lib.decDigits (p ++ [a] ++ r).length = y
  simp
theorem cut_at (y p z : List UInt8) (a : UInt8) (m : Nat) (hm : m = y.length + 1 + p.length) : ((y ++ 58 :: p) ++ (a :: z)).take m = y ++ 58 :: p ∧ ((y ++ 58 :: p) ++ (a :: z)).drop (m + 1) = z := by
  have hl : (y ++ 58 :: p).length = m := by rw [List.length_append, List.length_cons]; omega
  refine ⟨List.take_left' hl, ?_⟩
  rw [List.drop_append, List.drop_eq_nil_of_le (by omega), hl]
  simp
theorem changed_l (p r : List UInt8) (a c : UInt8) (n m : Nat) (hn : (p ++ [a] ++ r).length = n) (h : n ≤ 4096) (hne : a ≠ c) (hm : m = (Lib.decDigits n).length + 1 + p.length) :
    firstL ((encL (p ++ [a] ++ r)).take m ++ [c] ++ (encL (p ++ [a] ++ r)).drop (m + 1)) = none := by
  rw [encL_at p r a n hn, (cut_at _ _ _ _ m hm).1, (cut_at _ _ _ _ m hm).2]
  have h3 := first_changed p r a c (by rw [hn]; exact h) hne
  rw [hn] at h3
  revert h3
  generalize txtL (p ++ [a] ++ r) = x
  generalize Lib.decDigits n = y
  intro h3
  have e : y ++ 58 :: p ++ [c] ++ (r ++ (x ++ [10])) = y ++ 58 :: ((p ++ [c] ++ r) ++ (x ++ [10])) := by simp
  rw [e]; exact h3
theorem changed_first (s : ByteArray) (k m : Nat) (c : UInt8) (hk : k < s.size) (hl : s.size ≤ 4096) (hne : chr s k ≠ c) (hm : m = (Lib.decDigits s.size).length + 1 + k) :
    firstL ((encL s.data.toList).take m ++ [c] ++ (encL s.data.toList).drop (m + 1)) = none := by
  have hs : s.data.toList = s.data.toList.take k ++ [chr s k] ++ s.data.toList.drop (k + 1) := by
    rw [← tk_chr s k hk]
    exact (List.take_append_drop (k + 1) _).symm
  have hpl : (s.data.toList.take k).length = k := by rw [List.length_take, L_len]; omega
  have h := changed_l (s.data.toList.take k) (s.data.toList.drop (k + 1)) (chr s k) c s.size m (by rw [← hs, L_len]) hl hne (by rw [hpl]; exact hm)
  rw [← hs] at h
  exact h
theorem changed_dec {s q z : ByteArray} {k kk : Nat} {c : UInt8} (hk : k < s.size) (hl : s.size ≤ 4096) (hne : chr s k ≠ c) (hq : encS s = q) (hkk : kk = (Lib.decDigits s.size).length + 1 + k) (hz : (q.extract 0 kk ++ ⟨#[c]⟩) ++ q.extract (kk + 1) q.size = z) : decS z = [] := by
  have e : z.data.toList = (encL s.data.toList).take kk ++ [c] ++ (encL s.data.toList).drop (kk + 1) := by
    rw [← hz, ByteArray.data_append, Array.toList_append, ByteArray.data_append, Array.toList_append, ext_take, ext_drop, ← hq, encS_is, ofL_L]
  show (decL z.data.toList).map ofL = []
  rw [e, decL_none (changed_first s k kk c hk hl hne hkk)]
  rfl
theorem u8_eq (s : ByteArray) (k : Nat) (c : UInt8) : (bt s k == (c.toNat : Int)) = decide (chr s k = c) := by
  rw [bt_chr, Bool.eq_iff_iff, beq_iff_eq, decide_eq_true_iff, ← UInt8.toNat_inj]
  omega
set_option maxRecDepth 100000 in
set_option maxHeartbeats 2000000 in
theorem changed_s (s : ByteArray) (at_ : Int) (c : Int) (w : World) (hat_ : (Lit.int .i64 at_).wf = true) (hc : (Lit.int .u8 c).wf = true) (ho : WJ w) :
    Calls Tryd.prog 8 #[.string s, .int .i64 at_, .int .u8 c] w fun e w' => e = .returned (.bool true) ∧ Below w.heap.size w w' := by
  have HW := Lib.hid (Below.refl w.heap.size w)
  have HO := Lib.hid ho
  clear ho
  obtain ⟨c1, c2⟩ := int_range hat_
  obtain ⟨cb, rfl⟩ := u8_byte hc
  have hbt := get_bt s
  clear hat_ hc
  by_cases g0 : s.size = 0
  · have e0 : ((s.size : Int) == 0) = true := beq_iff_eq.2 (by omega)
    go_enter Tryd.func8, Tryd.ntmps8
    go_wp2_with fail
    refine (live_s _ HO.out).mono ?_
    rintro e w1 ⟨rfl, hb⟩
    go_wp2_with fail
    go_ret
    exact ⟨rfl, hb⟩
  have e0 : ((s.size : Int) == 0) = false := beq_false_of_ne (by omega)
  by_cases g1 : 300 < s.size
  · have e1 : decide ((300 : Int) < (s.size : Int)) = true := decide_eq_true (by omega)
    go_enter Tryd.func8, Tryd.ntmps8
    go_wp2_with fail
    refine (live_s _ HO.out).mono ?_
    rintro e w1 ⟨rfl, hb⟩
    go_wp2_with fail
    go_ret
    exact ⟨rfl, hb⟩
  have e1 : decide ((300 : Int) < (s.size : Int)) = false := decide_eq_false (by omega)
  by_cases g2 : at_ < 0
  · have e2 : decide (at_ < 0) = true := decide_eq_true g2
    go_enter Tryd.func8, Tryd.ntmps8
    go_wp2_with fail
    refine (live_s _ HO.out).mono ?_
    rintro e w1 ⟨rfl, hb⟩
    go_wp2_with fail
    go_ret
    exact ⟨rfl, hb⟩
  have e2 : decide (at_ < 0) = false := decide_eq_false g2
  by_cases g3 : (s.size : Int) ≤ at_
  · have e3 : decide ((s.size : Int) ≤ at_) = true := decide_eq_true g3
    go_enter Tryd.func8, Tryd.ntmps8
    go_wp2_with fail
    refine (live_s _ HO.out).mono ?_
    rintro e w1 ⟨rfl, hb⟩
    go_wp2_with fail
    go_ret
    exact ⟨rfl, hb⟩
  obtain ⟨k, rfl⟩ := Int.eq_ofNat_of_zero_le (show 0 ≤ at_ by omega)
  have e3 : decide ((s.size : Int) ≤ (k : Int)) = false := decide_eq_false g3
  have hk : k < s.size := by omega
  have hu := u8_eq s k cb
  by_cases g4 : chr s k = cb
  · have e4 : (bt s k == (cb.toNat : Int)) = true := by rw [hu, decide_eq_true g4]
    clear hu g4
    go_enter Tryd.func8, Tryd.ntmps8
    go_wp2_with fail
    refine (live_s _ HO.out).mono ?_
    rintro e w1 ⟨rfl, hb⟩
    go_wp2_with fail
    go_ret
    exact ⟨rfl, hb⟩
  have e4 : (bt s k == (cb.toNat : Int)) = false := by rw [hu, decide_eq_false g4]
  have G4 := Lib.hid g4
  clear hu g4
  obtain ⟨q, hq⟩ : ∃ q, encS s = q := ⟨_, rfl⟩
  have hql : q.size = (Lib.decDigits s.size).length + s.size + 18 := by rw [← hq, encS_size, encL_length, L_len]
  have hdl := dec_len s.size
  obtain ⟨kk, hkk⟩ : ∃ kk, kk = (Lib.decDigits s.size).length + 1 + k := ⟨_, rfl⟩
  have k1 : (q.size : Int) - 17 - (s.size : Int) + (k : Int) = (kk : Int) := by omega
  have k2 : kk + 1 ≤ q.size := by omega
  have k3 : q.size ≤ 1000 := by omega
  have k4 : decide ((kk : Int) < 0) = false := decide_eq_false (by omega)
  have k5 : decide ((q.size : Int) ≤ (kk : Int)) = false := decide_eq_false (by omega)
  have k6 : kk ≤ q.size := by omega
  have k7 : IntKind.i64.wrap ((kk : Int) + 1) = (kk : Int) + 1 := by rw [IntKind.wrap_i64]; omega
  have k8 : (0 : Int) ≤ (kk : Int) + 1 := by omega
  have k9 : (kk : Int) + 1 ≤ (q.size : Int) := by omega
  have k10 : ((kk : Int) + 1).toNat = kk + 1 := by omega
  obtain ⟨x1, hx1⟩ : ∃ x, q.extract 0 kk = x := ⟨_, rfl⟩
  obtain ⟨x2, hx2⟩ : ∃ x, q.extract (kk + 1) q.size = x := ⟨_, rfl⟩
  obtain ⟨x3, hx3⟩ : ∃ x, x1 ++ (⟨#[cb]⟩ : ByteArray) = x := ⟨_, rfl⟩
  obtain ⟨z, hz⟩ : ∃ x, x3 ++ x2 = x := ⟨_, rfl⟩
  have s1 : (⟨#[cb]⟩ : ByteArray).size = 1 := rfl
  have z1 : x1.size = kk := by rw [← hx1, ByteArray.size_extract]; omega
  have z2 : x2.size ≤ 1000 := by rw [← hx2, ByteArray.size_extract]; omega
  have z3 : x3.size ≤ 1001 := by rw [← hx3, ByteArray.size_append, z1, s1]; omega
  have z4 : z.size ≤ 1000000000 := by rw [← hz, ByteArray.size_append]; omega
  have y1 : ¬ (9223372036854775807 < x1.size + 1) := by omega
  have y2 : ¬ (9223372036854775807 < x3.size + x2.size) := by omega
  have HD := Lib.hid (changed_dec hk (by omega) G4.out hq hkk (by rw [hx1, hx2, hx3, hz]))
  have HQ := Lib.hid hq
  clear hq hql hdl hkk z1
  go_enter Tryd.func8, Tryd.ntmps8
  go_wp2_with fail
  refine (encode_k s q _ (by omega) HO.out HQ.out).mono ?_
  rintro e w1 ⟨rfl, hb⟩
  have HW := Lib.hid (HW.out.trans (hb.mono HW.out.size))
  clear hb
  go_wp2_with fail
  have hconv : (convert 46 9 (.slice (some ⟨w1.heap.size, 0, none⟩) 1 1)).run Tryd.prog (w1.alloc (.cells #[.int .u8 (cb.toNat : Int)] 5)).drew = .ok (.string ⟨#[cb]⟩) (w1.alloc (.cells #[.int .u8 (cb.toNat : Int)] 5)).drew :=
    run_convert_bytes_back (P := Tryd.prog) _ 46 9 5 ⟨w1.heap.size, 0, none⟩ 1 [cb] Tryd.underlying46 Tryd.underlying5 Tryd.underlying9 (fun j hj => by
      have : j = 0 := by simpa using hj
      subst this
      exact (kbc_new w1 _).cell rfl)
  have HA := Lib.hid (show Below w.heap.size w (w1.alloc (.cells #[.int .u8 (cb.toNat : Int)] 5)).drew from (HW.out.trans ((box_below w1 _).mono HW.out.size)).drew)
  refine wp_region_held_drew (S := fun _ => True) (by kernel_rfl) (trivial) (fun hS => ?_)
  refine wpAnyH_take (i := 0) (oi := { dst := some 56, op := _, type := _, pos := _, after := _, guard := _ }) (v := ?_) rfl (by kernel_rfl) (by kernel_rfl) (by kernel_rfl) (fun _ _ _ h => h) (Or.inl ⟨by rfl, ?_⟩) (by assumption) ?_
  rotate_left
  · intro w hSw
    try dsimp only at hSw
    go_simp
    try with_reducible rfl
  try simp only [Act.put, List.setIfInBounds_toArray, List.set_cons_zero, List.set_cons_succ]
  refine wpAnyH_take (i := 1) (oi := { dst := some 57, op := _, type := _, pos := _, after := _, guard := _ }) (v := ?_) rfl (by kernel_rfl) (by kernel_rfl) (by kernel_rfl) (fun _ _ _ h => h) (Or.inl ⟨by rfl, ?_⟩) (by assumption) ?_
  rotate_left
  · intro w hSw
    try dsimp only at hSw
    go_simp
    try with_reducible rfl
  try simp only [Act.put, List.setIfInBounds_toArray, List.set_cons_zero, List.set_cons_succ]
  refine wpAnyH_take (i := 2) (oi := { dst := some 58, op := _, type := _, pos := _, after := _, guard := _ }) (v := ?_) rfl (by kernel_rfl) (by kernel_rfl) (by kernel_rfl) (fun _ _ _ h => h) (Or.inl ⟨by rfl, ?_⟩) (by assumption) ?_
  rotate_left
  · intro w hSw
    try dsimp only at hSw
    go_simp
    try with_reducible rfl
  try simp only [Act.put, List.setIfInBounds_toArray, List.set_cons_zero, List.set_cons_succ]
  refine wpAnyH_take (i := 3) (oi := { dst := some 59, op := _, type := _, pos := _, after := _, guard := _ }) (v := ?_) rfl (by kernel_rfl) (by kernel_rfl) (by kernel_rfl) (fun _ _ _ h => h) (Or.inl ⟨by rfl, ?_⟩) (by assumption) ?_
  rotate_left
  · intro w hSw
    try dsimp only at hSw
    go_simp
    try with_reducible rfl
  try simp only [Act.put, List.setIfInBounds_toArray, List.set_cons_zero, List.set_cons_succ]
  refine wpAnyH_take (i := 7) (oi := { dst := some 63, op := _, type := _, pos := _, after := _, guard := _ }) (v := ?_) rfl (by kernel_rfl) (by kernel_rfl) (by kernel_rfl) (fun _ _ _ h => h) (Or.inl ⟨by rfl, ?_⟩) (by assumption) ?_
  rotate_left
  · intro w hSw
    try dsimp only at hSw
    go_simp
    try with_reducible rfl
  try simp only [Act.put, List.setIfInBounds_toArray, List.set_cons_zero, List.set_cons_succ]
  refine wpAnyH_take (i := 8) (oi := { dst := some 64, op := _, type := _, pos := _, after := _, guard := _ }) (v := ?_) rfl (by kernel_rfl) (by kernel_rfl) (by kernel_rfl) (fun _ _ _ h => h) (Or.inl ⟨by rfl, ?_⟩) (by assumption) ?_
  rotate_left
  · intro w hSw
    try dsimp only at hSw
    go_simp
    try with_reducible rfl
  try simp only [Act.put, List.setIfInBounds_toArray, List.set_cons_zero, List.set_cons_succ]
  refine wpAnyH_take (i := 9) (oi := { dst := some 65, op := _, type := _, pos := _, after := _, guard := _ }) (v := ?_) rfl (by kernel_rfl) (by kernel_rfl) (by kernel_rfl) (fun _ _ _ h => h) (Or.inl ⟨by rfl, ?_⟩) (by assumption) ?_
  rotate_left
  · intro w hSw
    try dsimp only at hSw
    go_simp
    try with_reducible rfl
  try simp only [Act.put, List.setIfInBounds_toArray, List.set_cons_zero, List.set_cons_succ]
  refine wpAnyH_take (i := 10) (oi := { dst := some 66, op := _, type := _, pos := _, after := _, guard := _ }) (v := ?_) rfl (by kernel_rfl) (by kernel_rfl) (by kernel_rfl) (fun _ _ _ h => h) (Or.inl ⟨by rfl, ?_⟩) (by assumption) ?_
  rotate_left
  · intro w hSw
    try dsimp only at hSw
    go_simp
    try with_reducible rfl
  try simp only [Act.put, List.setIfInBounds_toArray, List.set_cons_zero, List.set_cons_succ]
  refine wpAnyH_ready (rs := [4]) (by kernel_rfl) (by simp) ?_
  refine AllReadyH.cons rfl (fun K hK => ?_) AllReadyH.nil
  go_simp
  refine hK.out _ _ ?_ (fun hHeld => ?_)
  · exact trivial
  clear hK K
  try simp only [Act.put, List.setIfInBounds_toArray, List.set_cons_zero, List.set_cons_succ]
  refine wpAnyH_ready (rs := [5]) (by kernel_rfl) (by simp) ?_
  refine AllReadyH.cons rfl (fun K hK => ?_) AllReadyH.nil
  go_simp
  refine hK.out _ _ ?_ (fun hHeld => ?_)
  · exact trivial
  clear hK K
  try simp only [Act.put, List.setIfInBounds_toArray, List.set_cons_zero, List.set_cons_succ]
  refine wpAnyH_take (i := 6) (oi := { dst := some 62, op := _, type := _, pos := _, after := _, guard := _ }) (v := ?_) rfl (by kernel_rfl) (by kernel_rfl) (by kernel_rfl) (fun _ _ _ h => h) (Or.inl ⟨by rfl, ?_⟩) (by assumption) ?_
  rotate_left
  · intro w hSw
    try dsimp only at hSw
    go_simp
    try with_reducible rfl
  try simp only [Act.put, List.setIfInBounds_toArray, List.set_cons_zero, List.set_cons_succ]
  refine wpAnyH_take (i := 11) (oi := { dst := some 67, op := _, type := _, pos := _, after := _, guard := _ }) (v := ?_) rfl (by kernel_rfl) (by kernel_rfl) (by kernel_rfl) (fun _ _ _ h => h) (Or.inl ⟨by rfl, ?_⟩) (by assumption) ?_
  rotate_left
  · intro w hSw
    try dsimp only at hSw
    go_simp
    try with_reducible rfl
  try simp only [Act.put, List.setIfInBounds_toArray, List.set_cons_zero, List.set_cons_succ]
  refine wpAnyH_ready (rs := [12]) (by kernel_rfl) (by simp) ?_
  refine AllReadyH.cons rfl (fun K hK => ?_) AllReadyH.nil
  go_simp
  refine (decode_k z [] 0 _ z4 (HO.out.at HA.out) HD.out rfl).mono ?_
  rintro e w2 ⟨u, rfl, hu, hb⟩
  obtain ⟨ua, uc, hu'⟩ := row_slice hu
  subst hu'
  have HW := Lib.hid (HA.out.trans (hb.mono HA.out.size))
  clear hu hb
  go_wp2_with fail
  refine hK.out _ _ ?_ (fun hHeld => ?_)
  · exact trivial
  clear hK K
  try simp only [Act.put, List.setIfInBounds_toArray, List.set_cons_zero, List.set_cons_succ]
  refine wpAnyH_take (i := 13) (oi := { dst := some 55, op := _, type := _, pos := _, after := _, guard := _ }) (v := ?_) rfl (by kernel_rfl) (by kernel_rfl) (by kernel_rfl) (fun _ _ _ h => h) (Or.inl ⟨by rfl, ?_⟩) (by assumption) ?_
  rotate_left
  · intro w hSw
    try dsimp only at hSw
    go_simp
    try with_reducible rfl
  try simp only [Act.put, List.setIfInBounds_toArray, List.set_cons_zero, List.set_cons_succ]
  refine wpAnyH_take (i := 14) (oi := { dst := some 69, op := _, type := _, pos := _, after := _, guard := _ }) (v := ?_) rfl (by kernel_rfl) (by kernel_rfl) (by kernel_rfl) (fun _ _ _ h => h) (Or.inl ⟨by rfl, ?_⟩) (by assumption) ?_
  rotate_left
  · intro w hSw
    try dsimp only at hSw
    go_simp
    try with_reducible rfl
  try simp only [Act.put, List.setIfInBounds_toArray, List.set_cons_zero, List.set_cons_succ]
  refine wpAnyH_take (i := 15) (oi := { dst := some 70, op := _, type := _, pos := _, after := _, guard := _ }) (v := ?_) rfl (by kernel_rfl) (by kernel_rfl) (by kernel_rfl) (fun _ _ _ h => h) (Or.inl ⟨by rfl, ?_⟩) (by assumption) ?_
  rotate_left
  · intro w hSw
    try dsimp only at hSw
    go_simp
    try with_reducible rfl
  try simp only [Act.put, List.setIfInBounds_toArray, List.set_cons_zero, List.set_cons_succ]
  refine wpAnyH_take (i := 16) (oi := { dst := some 9, op := _, type := _, pos := _, after := _, guard := _ }) (v := ?_) rfl (by kernel_rfl) (by kernel_rfl) (by kernel_rfl) (fun _ _ _ h => h) (Or.inl ⟨by rfl, ?_⟩) (by assumption) ?_
  rotate_left
  · intro w hSw
    try dsimp only at hSw
    go_simp
    try with_reducible rfl
  try simp only [Act.put, List.setIfInBounds_toArray, List.set_cons_zero, List.set_cons_succ]
  refine wpAnyH_take (i := 17) (oi := { dst := some 10, op := _, type := _, pos := _, after := _, guard := _ }) (v := ?_) rfl (by kernel_rfl) (by kernel_rfl) (by kernel_rfl) (fun _ _ _ h => h) (Or.inl ⟨by rfl, ?_⟩) (by assumption) ?_
  rotate_left
  · intro w hSw
    try dsimp only at hSw
    go_simp
    try with_reducible rfl
  try simp only [Act.put, List.setIfInBounds_toArray, List.set_cons_zero, List.set_cons_succ]
  refine wpAnyH_done (by kernel_rfl) ?_ _
  go_wp2_with fail
  refine (live_s _ (HO.out.at HW.out)).mono ?_
  rintro e w3 ⟨rfl, hb⟩
  have HW := Lib.hid (HW.out.trans (hb.mono HW.out.size))
  clear hb
  go_wp2_with fail
  go_ret
  exact ⟨rfl, HW.out⟩

theorem changed_types : ∀ t ∈ [9, 3, 5], Tryd.prog.readableRec t = true ∧ t < Tryd.prog.types.size := by
  have h : ([9, 3, 5].all fun t => Tryd.prog.readableRec t && decide (t < Tryd.prog.types.size)) = true := by kernel_rfl
  intro t ht
  have := List.all_eq_true.1 h t ht
  simpa using this

set_option maxRecDepth 100000 in
theorem changed_contract (H : Type) (enc : TypeId × Value → H) (W : World) (base : Nat) (args : Array Value) (ds gs : List (DataW H)) (before : List MemPlace)
    (hval : ∀ (j : Nat) t v, Tryd.f8.params[j]? = some t → args[j]? = some v → Value.okWide Tryd.prog W .any base t v)
    (hW : DataW.Whole enc Tryd.prog Tryd.f8.params.toList Rows.journalChangedSpec.vars false W args.toList ds gs before) (hL : laidMetH Tryd.prog Rows.journalChangedRow.laid W) (hsh : W.ShapedOpen Tryd.prog) :
    Calls Tryd.prog 8 args W fun e W' => ∃ v, e = .returned v ∧ Rows.journalChangedSpec.post enc Tryd.prog Tryd.f8 false true false false W args v W' := by
  have hW' := hW
  obtain ⟨p, q, hA0, hV, rfl, hfz, hnd⟩ := hW
  have hA : DataW.TrodAll enc Tryd.prog W 0 (fun _ => true) true Tryd.f8.params.toList args.toList ds p := hA0
  obtain ⟨rfl, rfl⟩ := trodVars_none hV
  simp only [List.append_nil] at hW'
  have hlt : ∀ x ∈ p, x.block < W.heap.size := fun x hx => by simpa using hW'.lt x hx
  have fin : ∀ W', Below W.heap.size W W' → DataW.TrodAll enc Tryd.prog W' 0 (fun b => decide (b < W.heap.size)) true [9, 3, 5] args.toList ds p := fun W' hb => by
    rw [Tryd.params8] at hA
    exact trodAll_below hb _ _ _ _ changed_types hA hlt
  clear hA0
  rw [Tryd.params8] at hA hval
  obtain ⟨v0, vs0, d0, ds0, p0, q0, hargs, rfl, hp0, h0, r0⟩ := trodAll_cons hA
  obtain ⟨v1, vs1, d1, ds1, p1, q1, rfl, rfl, hp1, h1, r1⟩ := trodAll_cons r0
  obtain ⟨v2, vs2, d2, ds2, p2, q2, rfl, rfl, hp2, h2, r2⟩ := trodAll_cons r1
  obtain ⟨rfl, rfl, rfl⟩ := trodAll_nil r2
  obtain rfl : args = #[v0, v1, v2] := by cases args; simp_all
  obtain ⟨s, rfl, rfl, rfl, hs0⟩ := open_string Tryd.underlying9 (hval 0 9 v0 rfl rfl) h0
  obtain ⟨at_, rfl, rfl, rfl, hs1⟩ := open_int Tryd.underlying3 (hval 1 3 v1 rfl rfl) h1
  obtain ⟨c, rfl, rfl, rfl, hs2⟩ := open_int Tryd.underlying5 (hval 2 5 v2 rfl rfl) h2
  refine (changed_s s at_ c W hs1 hs2 (wj_of hL hsh)).mono fun e W' ⟨he, hb⟩ => ?_
  subst he
  exact ⟨_, rfl, _, _, _, [], p, [], hW', trodAll_mk1 (shut_bool Tryd.underlying4 _), fin W' hb, rfl, hb.frame _, fun h => by cases h⟩

set_option maxRecDepth 100000 in
theorem changed_lifted (os : Os) (started : os.Started) (H : Type) (enc : TypeId × Value → H) (F : Stop.Interp) :
    ReturnsInHanded {} Tryd.checked os 8 .any ((OpenSpec.ofChange Rows.journalChangedSpec).preRow enc Tryd.prog Tryd.f8 Rows.journalChangedRow.domain false Rows.journalChangedRow.laid) (((OpenSpec.ofChange Rows.journalChangedSpec).at F).post enc Tryd.prog Tryd.f8 false true false false) := by
  refine returnsInHanded_of_row (C := Tryd.checked) (s := OpenSpec.ofChange Rows.journalChangedSpec) own started (by kernel_rfl) Tryd.func8
    (witness_row (enc := enc) (C := Tryd.checked) false (World.laidAll Tryd.prog os Rows.journalChangedRow.laid) #[.string ⟨#[]⟩, .int .i64 0, .int .u8 0] (World.laidAll_os _ _ _)
      (World.shaped_of_ZipB (by kernel_rfl) (by kernel_rfl)) (by kernel_rfl)
      (OpenSpec.preRow_of_cond 8 (x := ([.lit (.string []), .lit (.int .i64 0), .lit (.int .u8 0)], [], [])) (by kernel_rfl) (by kernel_rfl) (fun k hk => by cases hk) (by kernel_rfl)
        (by rw [MakeChecks.laidMetH_plain _ _ _ (by kernel_rfl)]; exact laidMet_laidAll _ (by kernel_rfl) (by kernel_rfl)))) ?_
  intro W base args ds gs before hval hW _ _ _ hL hsh _
  exact changed_contract H enc W base args ds gs before hval hW hL hsh

set_option maxRecDepth 100000 in
theorem changed_said : Rows.JournalChangedSaid :=
  OpenClaim.holds_of_cond 8 Tryd.f8 rfl rfl rfl rfl rfl rfl rfl ⟨rfl, rfl, rfl, rfl, rfl⟩ rfl rfl rfl rfl rfl (by kernel_rfl) Tryd.func8 (by kernel_rfl)
    (of_decide_eq_true (by kernel_rfl)) (by unfold Func.isWrapper; first | (rw [if_pos (by decide +kernel)]; kernel_rfl) | (rw [if_neg (by decide +kernel)]; exact ⟨rfl, rfl⟩))
    (fun os started H enc _ F => by rw [OpenClaim.pre_eq_preRow]; exact changed_lifted os started H enc F)

set_option maxRecDepth 100000 in
theorem changed_plain (f : FuncId) (fn : Func) (hf : Tryd.pinned.checked.prog.funcNamed "identity/identitylaw19.JournalChanged" = some f) (hfn : Tryd.pinned.checked.prog.funcs[f]? = some fn) :
    true = Tryd.pinned.checked.prog.looks [] ∧ ∀ (j : Nat) t, fn.params[j]? = some t → Tryd.pinned.checked.prog.wantsStandIn t = false := by
  obtain rfl : f = 8 := Option.some.inj ((show Tryd.prog.funcNamed "identity/identitylaw19.JournalChanged" = some 8 by kernel_rfl).symm.trans hf) |>.symm
  obtain rfl : fn = Tryd.f8 := (Option.some.inj (Tryd.func8.symm.trans hfn)).symm
  refine ⟨by kernel_rfl, fun j t ht => ?_⟩
  rw [Tryd.params8] at ht
  have hm : t ∈ [9, 3, 5] := by simpa using Array.mem_of_getElem? ht
  have hall : ([9, 3, 5].all fun u => !Tryd.prog.wantsStandIn u) = true := by kernel_rfl
  exact (show Tryd.prog.wantsStandIn t = false by simpa using List.all_eq_true.1 hall t hm)

/-- THE CARD -/
theorem changed_card : Rows.JournalChangedCardSaid :=
  Claim7.holds_tied_plain_at .later [] _ _ _ _ changed_said (fun _ h => by cases h) (by kernel_rfl) (fun _ h => by cases h) journalChanged_row_tie rfl ⟨rfl, rfl⟩ (by kernel_rfl) rfl changed_plain (by kernel_rfl)
end Go.Proofs.YtafecnaeoeanmaaDoor
