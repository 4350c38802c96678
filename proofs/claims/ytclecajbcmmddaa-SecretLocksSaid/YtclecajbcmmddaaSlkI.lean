/-
  Contract of the specification's Fail, all cases; the program's Locked at nil. Condition: at most 256 users; names of at most 1000000000 bytes.
-/
import Derived.Test.YtclecajbcmmddaaSecX
import Derived.Test.YtclecajbcmmddaaSlkG
import Derived.Test.YtclecajbcmmddaaSlkH
set_option maxRecDepth 100000
set_option linter.unusedVariables false
set_option linter.unusedSimpArgs false
set_option linter.unnecessarySimpa false
namespace Go.Proofs.Ytclecajbcmmddaa
open Go.RowKit Go.PlainAid

theorem rfail_no (S : Nat → Prop) (b : Nat) (most win lock : Int) (L : List Rr) (v : Value) (A A' : Us) (u : ByteArray) (now : Int) (w : World) (hx : RX w S b most win lock L v) (hAL : A = L.map rrU) (hu : u.size ≤ 1000000000) (hw : wordB u = false) (hA : failA most win lock A u now = A') :
    Calls Try.prog 9 #[.pointer (some ⟨b, 0, none⟩), .string u, .int .i64 now] w fun e w' => e = .returned (.tuple #[]) ∧ RL w' (nw S w w') b most win lock A' ∧ Fo S w w' := by
  have HX := Lib.hid hx
  have HW := Lib.hid hw
  have HA := Lib.hid (show A' = A by rw [← hA]; unfold failA; rw [hw, if_neg (by simp)])
  have HAL := Lib.hid hAL
  clear hx hw hA hAL
  go_enter Try.func9, Try.ntmps9
  go_wp2_with fail
  refine (rmade_k S b most win lock L _ _ HX.out).mono ?_
  rintro e w' ⟨rfl, rfl⟩
  go_wp2_with fail
  refine (rword_k u false _ hu HW.out).mono ?_
  rintro e w' ⟨rfl, rfl⟩
  go_wp2_with fail
  refine bodyPost_ret (results_none rfl _ _ _) rfl ?_
  exact ⟨rfl, ⟨L, _, HX.out.mono fun i hi => .inl hi, HA.out.trans HAL.out⟩, Fo.refl _ _⟩

theorem rfail_full (S : Nat → Prop) (b : Nat) (most win lock : Int) (L : List Rr) (v : Value) (A A' : Us) (u : ByteArray) (now : Int) (w : World) (hx : RX w S b most win lock L v) (hAL : A = L.map rrU) (hu : u.size ≤ 1000000000) (hw : wordB u = true) (hA : failA most win lock A u now = A') (hlt : ¬ L.length < 256) (h4 : ixF L u = -1) (h5 : usO (L.map rrU) u = none) :
    Calls Try.prog 9 #[.pointer (some ⟨b, 0, none⟩), .string u, .int .i64 now] w fun e w' => e = .returned (.tuple #[]) ∧ RL w' (nw S w w') b most win lock A' ∧ Fo S w w' := by
  have HX := Lib.hid hx
  have HW := Lib.hid hw
  obtain ⟨y, hy⟩ : ∃ y, limI now = y := ⟨_, rfl⟩
  have HY := Lib.hid hy
  have HI := Lib.hid h4
  have HA := Lib.hid (show A' = A by rw [← hA]; unfold failA; rw [hw, if_pos rfl, hAL, h5, if_pos ⟨rfl, by rw [List.length_map]; omega⟩])
  have HAL := Lib.hid hAL
  obtain ⟨ao, cap0, rfl, q1, q2, -⟩ := hx.shape
  obtain ⟨-, -, -, -, c4⟩ := hx.flat
  have hl0 : (256 : Int) ≤ (L.length : Int) := by omega
  clear hx hw hA hAL hy h4 h5
  go_enter Try.func9, Try.ntmps9
  go_wp2_with fail
  refine (rmade_k S b most win lock L _ _ HX.out).mono ?_
  rintro e w' ⟨rfl, rfl⟩
  go_wp2_with fail
  refine (rword_k u true _ hu HW.out).mono ?_
  rintro e w' ⟨rfl, rfl⟩
  go_wp2_with fail
  refine (rlim_k now y _ HY.out).mono ?_
  rintro e w' ⟨rfl, rfl⟩
  go_wp2_with fail
  refine (rfind_k S b most win lock L _ u (-1) _ HX.out HI.out).mono ?_
  rintro e w' ⟨rfl, rfl⟩
  go_wp2_with fail
  refine bodyPost_ret (results_none rfl _ _ _) rfl ?_
  exact ⟨rfl, ⟨L, _, HX.out.mono fun i hi => .inl hi, HA.out.trans HAL.out⟩, Fo.refl _ _⟩

theorem rfail_k (S : Nat → Prop) (b : Nat) (most win lock : Int) (A A' : Us) (u : ByteArray) (now : Int) (w : World) (h : RL w S b most win lock A) (hok : UsOk A) (hwin : win ≤ MT) (hu : u.size ≤ 1000000000) (hA : failA most win lock A u now = A') :
    Calls Try.prog 9 #[.pointer (some ⟨b, 0, none⟩), .string u, .int .i64 now] w fun e w' => e = .returned (.tuple #[]) ∧ RL w' (nw S w w') b most win lock A' ∧ Fo S w w' := by
  obtain ⟨L, v, hx, hAL⟩ := h
  cases hw : wordB u with
  | false => exact rfail_no S b most win lock L v A A' u now w hx hAL hu hw hA
  | true =>
    rcases find_cases L u with ⟨k, h1, h2, h3, h4, h5⟩ | ⟨h3, h4, h5⟩
    · exact rfail_old S b most win lock L v A A' u now w hx hAL hok hwin hu hw hA k h1 h2 h4 h5
    · by_cases hlt : L.length < 256
      · exact rfail_new S b most win lock L v A A' u now w hx hAL hok hwin hu hw hA hlt h4 h5
      · exact rfail_full S b most win lock L v A A' u now w hx hAL hu hw hA hlt h4 h5

theorem nlocked (u : ByteArray) (n : Int) (w : World) :
    Calls Try.prog 12 #[.pointer none, .string u, .int .i64 n] w fun e w' => e = .returned (.bool false) ∧ Below w.heap.size w w' := by
  go_enter Try.func12, Try.ntmps12
  go_wp2_with fail
  have HB := Lib.hid (Below.refl w.heap.size w).drew
  refine wp_region_held_drew (S := fun V => Hid (Below w.heap.size w V)) (by kernel_rfl) (HB) (fun hS => ?_)
  refine wpAnyH_take (i := 0) (oi := { dst := some 7, op := _, type := _, pos := _, after := _, guard := _ }) (v := ?_) rfl (by kernel_rfl) (by kernel_rfl) (by kernel_rfl) (fun _ _ _ h => h) (Or.inl ⟨by rfl, ?_⟩) (by assumption) ?_
  rotate_left
  · intro w hSw
    try dsimp only at hSw
    go_simp
    try with_reducible rfl
  try simp only [Act.put, List.setIfInBounds_toArray, List.set_cons_zero, List.set_cons_succ]
  refine wpAnyH_ready (rs := [1]) (by kernel_rfl) (by simp) ?_
  refine AllReadyH.cons rfl (fun K hK => ?_) AllReadyH.nil
  go_simp
  refine (made_nil _).mono ?_
  rintro e w' ⟨rfl, rfl⟩
  go_wp2_with fail
  refine hK.out _ _ ?_ (fun hHeld => ?_)
  · exact HB
  clear hK K
  try simp only [Act.put, List.setIfInBounds_toArray, List.set_cons_zero, List.set_cons_succ]
  refine wpAnyH_take (i := 2) (oi := { dst := some 9, op := _, type := _, pos := _, after := _, guard := _ }) (v := ?_) rfl (by kernel_rfl) (by kernel_rfl) (by kernel_rfl) (fun _ _ _ h => h) (Or.inl ⟨by rfl, ?_⟩) (by assumption) ?_
  rotate_left
  · intro w hSw
    try dsimp only at hSw
    go_simp
    try with_reducible rfl
  try simp only [Act.put, List.setIfInBounds_toArray, List.set_cons_zero, List.set_cons_succ]
  refine wpAnyH_take (i := 3) (oi := { dst := some 10, op := _, type := _, pos := _, after := _, guard := _ }) (v := undef) rfl (by kernel_rfl) (by kernel_rfl) (by kernel_rfl) (fun _ _ _ h => h) (Or.inr ⟨by rfl, rfl⟩) (by assumption) ?_
  try simp only [Act.put, List.setIfInBounds_toArray, List.set_cons_zero, List.set_cons_succ]
  refine wpAnyH_take (i := 4) (oi := { dst := some 11, op := _, type := _, pos := _, after := _, guard := _ }) (v := undef) rfl (by kernel_rfl) (by kernel_rfl) (by kernel_rfl) (fun _ _ _ h => h) (Or.inr ⟨by rfl, rfl⟩) (by assumption) ?_
  try simp only [Act.put, List.setIfInBounds_toArray, List.set_cons_zero, List.set_cons_succ]
  refine wpAnyH_take (i := 5) (oi := { dst := some 12, op := _, type := _, pos := _, after := _, guard := _ }) (v := undef) rfl (by kernel_rfl) (by kernel_rfl) (by kernel_rfl) (fun _ _ _ h => h) (Or.inr ⟨by rfl, rfl⟩) (by assumption) ?_
  try simp only [Act.put, List.setIfInBounds_toArray, List.set_cons_zero, List.set_cons_succ]
  refine wpAnyH_take (i := 6) (oi := { dst := some 13, op := _, type := _, pos := _, after := _, guard := _ }) (v := undef) rfl (by kernel_rfl) (by kernel_rfl) (by kernel_rfl) (fun _ _ _ h => h) (Or.inr ⟨by rfl, rfl⟩) (by assumption) ?_
  try simp only [Act.put, List.setIfInBounds_toArray, List.set_cons_zero, List.set_cons_succ]
  refine wpAnyH_take (i := 7) (oi := { dst := some 14, op := _, type := _, pos := _, after := _, guard := _ }) (v := undef) rfl (by kernel_rfl) (by kernel_rfl) (by kernel_rfl) (fun _ _ _ h => h) (Or.inr ⟨by rfl, rfl⟩) (by assumption) ?_
  try simp only [Act.put, List.setIfInBounds_toArray, List.set_cons_zero, List.set_cons_succ]
  refine wpAnyH_take (i := 8) (oi := { dst := some 15, op := _, type := _, pos := _, after := _, guard := _ }) (v := undef) rfl (by kernel_rfl) (by kernel_rfl) (by kernel_rfl) (fun _ _ _ h => h) (Or.inr ⟨by rfl, rfl⟩) (by assumption) ?_
  try simp only [Act.put, List.setIfInBounds_toArray, List.set_cons_zero, List.set_cons_succ]
  refine wpAnyH_take (i := 9) (oi := { dst := some 16, op := _, type := _, pos := _, after := _, guard := _ }) (v := undef) rfl (by kernel_rfl) (by kernel_rfl) (by kernel_rfl) (fun _ _ _ h => h) (Or.inr ⟨by rfl, rfl⟩) (by assumption) ?_
  try simp only [Act.put, List.setIfInBounds_toArray, List.set_cons_zero, List.set_cons_succ]
  refine wpAnyH_take (i := 10) (oi := { dst := some 17, op := _, type := _, pos := _, after := _, guard := _ }) (v := undef) rfl (by kernel_rfl) (by kernel_rfl) (by kernel_rfl) (fun _ _ _ h => h) (Or.inr ⟨by rfl, rfl⟩) (by assumption) ?_
  try simp only [Act.put, List.setIfInBounds_toArray, List.set_cons_zero, List.set_cons_succ]
  refine wpAnyH_take (i := 11) (oi := { dst := some 18, op := _, type := _, pos := _, after := _, guard := _ }) (v := undef) rfl (by kernel_rfl) (by kernel_rfl) (by kernel_rfl) (fun _ _ _ h => h) (Or.inr ⟨by rfl, rfl⟩) (by assumption) ?_
  try simp only [Act.put, List.setIfInBounds_toArray, List.set_cons_zero, List.set_cons_succ]
  refine wpAnyH_take (i := 12) (oi := { dst := some 19, op := _, type := _, pos := _, after := _, guard := _ }) (v := undef) rfl (by kernel_rfl) (by kernel_rfl) (by kernel_rfl) (fun _ _ _ h => h) (Or.inr ⟨by rfl, rfl⟩) (by assumption) ?_
  try simp only [Act.put, List.setIfInBounds_toArray, List.set_cons_zero, List.set_cons_succ]
  refine wpAnyH_take (i := 13) (oi := { dst := some 20, op := _, type := _, pos := _, after := _, guard := _ }) (v := ?_) rfl (by kernel_rfl) (by kernel_rfl) (by kernel_rfl) (fun _ _ _ h => h) (Or.inl ⟨by rfl, ?_⟩) (by assumption) ?_
  rotate_left
  · intro w hSw
    try dsimp only at hSw
    go_simp
    try with_reducible rfl
  try simp only [Act.put, List.setIfInBounds_toArray, List.set_cons_zero, List.set_cons_succ]
  refine wpAnyH_take (i := 14) (oi := { dst := some 6, op := _, type := _, pos := _, after := _, guard := _ }) (v := ?_) rfl (by kernel_rfl) (by kernel_rfl) (by kernel_rfl) (fun _ _ _ h => h) (Or.inl ⟨by rfl, ?_⟩) (by assumption) ?_
  rotate_left
  · intro w hSw
    try dsimp only at hSw
    go_simp
    try with_reducible rfl
  try simp only [Act.put, List.setIfInBounds_toArray, List.set_cons_zero, List.set_cons_succ]
  refine wpAnyH_done (by kernel_rfl) ?_ _
  go_wp2_with fail
  go_ret
  exact ⟨rfl, HB.out⟩

section
variable {W w w' : World} {b c : Nat} {most win lock : Int} {A B A' : Us}
/-- both sides' locks, of the call's own: the program's hold A, the specification's hold B -/
structure Dl (W : World) (b c : Nat) (most win lock : Int) (A B : Us) (w : World) : Prop where
  ex : ∃ S T : Nat → Prop, LK w S b most win lock A ∧ RL w T c most win lock B ∧ (∀ i, S i → ¬ T i) ∧ (∀ i, S i → W.heap.size ≤ i ∧ i < w.heap.size) ∧ (∀ i, T i → W.heap.size ≤ i ∧ i < w.heap.size)
  low : Below W.heap.size W w
  ok : UsOk B
  nm : win ≤ MT
theorem Dl.step (h : Dl W b c most win lock A B w) (hb : Below w.heap.size w w') : Dl W b c most win lock A B w' := by
  obtain ⟨S, T, hl, hr, hd, hs, ht⟩ := h.ex
  exact ⟨⟨S, T, hl.step hb, hr.step hb, hd, fun i hi => ⟨(hs i hi).1, Nat.lt_of_lt_of_le (hs i hi).2 hb.size⟩, fun i hi => ⟨(ht i hi).1, Nat.lt_of_lt_of_le (ht i hi).2 hb.size⟩⟩, h.low.trans (hb.mono h.low.size), h.ok, h.nm⟩
theorem Dl.okA (h : Dl W b c most win lock A B w) : UsOk A := by
  obtain ⟨S, T, ⟨g, ρ, hl⟩, -⟩ := h.ex
  exact hl.ok
end
theorem dfail (W : World) (b c : Nat) (most win lock : Int) (A B A' : Us) (u : ByteArray) (now : Int) (w : World) (h : Dl W b c most win lock A B w) (hu : u.size ≤ 1000000000) (hA : failA most win lock A u now = A') :
    Calls Try.prog 8 #[.pointer (some ⟨b, 0, none⟩), .string u, .int .i64 now] w fun e w' => e = .returned (.tuple #[]) ∧ Dl W b c most win lock A' B w' := by
  obtain ⟨S, T, hl, hr, hd, hs, ht⟩ := h.ex
  refine (fail_k S b most win lock A A' u now w hl hu hA).mono fun e w' ⟨he, hk, hf⟩ => ⟨he, ⟨nw S w w', T, hk, hr.other hf (fun i hT hS => hd i hS hT), ?_, ?_, ?_⟩, ?_, h.ok, h.nm⟩
  · intro i hi hT
    rcases hi with hi | hi
    · exact hd i hi hT
    · have := (ht i hT).2; omega
  · intro i hi
    have h1 := hf.size
    have h2 := h.low.size
    rcases hi with hi | hi
    · have := hs i hi; omega
    · omega
  · intro i hi
    have h1 := hf.size
    have := ht i hi; omega
  · exact h.low.trans (hf.below (fun i hi => (hs i hi).1) h.low.size)
theorem dclear (W : World) (b c : Nat) (most win lock : Int) (A B A' : Us) (u : ByteArray) (w : World) (h : Dl W b c most win lock A B w) (hu : u.size ≤ 1000000000) (hA : clearA A u = A') :
    Calls Try.prog 10 #[.pointer (some ⟨b, 0, none⟩), .string u] w fun e w' => e = .returned (.tuple #[]) ∧ Dl W b c most win lock A' B w' := by
  obtain ⟨S, T, hl, hr, hd, hs, ht⟩ := h.ex
  refine (clear_k S b most win lock A A' u w hl hu hA).mono fun e w' ⟨he, hk, hf⟩ => ⟨he, ⟨S, T, hk, hr.other hf (fun i hT hS => hd i hS hT), hd, ?_, ?_⟩, ?_, h.ok, h.nm⟩
  · intro i hi
    have h1 := hf.size
    have := hs i hi; omega
  · intro i hi
    have h1 := hf.size
    have := ht i hi; omega
  · exact h.low.trans (hf.below (fun i hi => (hs i hi).1) h.low.size)
theorem rnw {W : World} {b c : Nat} {most win lock : Int} {A B B' : Us} {w w' : World} {S T : Nat → Prop} (h : Dl W b c most win lock A B w) (hl : LK w S b most win lock A) (hd : ∀ i, S i → ¬ T i) (hs : ∀ i, S i → W.heap.size ≤ i ∧ i < w.heap.size) (ht : ∀ i, T i → W.heap.size ≤ i ∧ i < w.heap.size) (hk : RL w' (nw T w w') c most win lock B') (hf : Fo T w w') (hok : UsOk B') : Dl W b c most win lock A B' w' := by
  have h1 := hf.size
  have h2 := h.low.size
  refine ⟨⟨S, nw T w w', hl.other hf hd, hk, ?_, ?_, ?_⟩, h.low.trans (hf.below (fun i hi => (ht i hi).1) h.low.size), hok, h.nm⟩
  · intro i hi hT
    rcases hT with hT | hT
    · exact hd i hi hT
    · have := (hs i hi).2; omega
  · intro i hi
    have := hs i hi; omega
  · intro i hi
    rcases hi with hi | hi
    · have := ht i hi; omega
    · omega
theorem drfail (W : World) (b c : Nat) (most win lock : Int) (A B : Us) (u : ByteArray) (now : Int) (w : World) (h : Dl W b c most win lock A B w) (hu : u.size ≤ 1000000000) (hA : failA most win lock B u now = A) :
    Calls Try.prog 9 #[.pointer (some ⟨c, 0, none⟩), .string u, .int .i64 now] w fun e w' => e = .returned (.tuple #[]) ∧ Dl W b c most win lock A A w' := by
  obtain ⟨S, T, hl, hr, hd, hs, ht⟩ := h.ex
  exact (rfail_k T c most win lock B A u now w hr h.ok h.nm hu hA).mono fun e w' ⟨he, hk, hf⟩ => ⟨he, rnw h hl hd hs ht hk hf h.okA⟩
theorem drclear (W : World) (b c : Nat) (most win lock : Int) (A B : Us) (u : ByteArray) (w : World) (h : Dl W b c most win lock A B w) (hA : clearA B u = A) :
    Calls Try.prog 11 #[.pointer (some ⟨c, 0, none⟩), .string u] w fun e w' => e = .returned (.tuple #[]) ∧ Dl W b c most win lock A A w' := by
  obtain ⟨S, T, hl, hr, hd, hs, ht⟩ := h.ex
  exact (rclear_k T c most win lock B A u w hr h.ok hA).mono fun e w' ⟨he, hk, hf⟩ => ⟨he, rnw h hl hd hs ht hk hf h.okA⟩
theorem dlocked (W : World) (b c : Nat) (most win lock : Int) (A B : Us) (u : ByteArray) (now : Int) (x : Bool) (w : World) (h : Dl W b c most win lock A B w) (hu : u.size ≤ 1000000000) (hx : lockedA A u now = x) :
    Calls Try.prog 12 #[.pointer (some ⟨b, 0, none⟩), .string u, .int .i64 now] w fun e w' => e = .returned (.bool x) ∧ Dl W b c most win lock A B w' := by
  obtain ⟨S, T, hl, hr, hd, hs, ht⟩ := h.ex
  exact (locked_k S b most win lock A u now x w hl hu hx).mono fun e w' ⟨he, hb⟩ => ⟨he, h.step hb⟩
theorem dfails (W : World) (b c : Nat) (most win lock : Int) (A B : Us) (u : ByteArray) (now : Int) (x : Nat) (w : World) (h : Dl W b c most win lock A B w) (hu : u.size ≤ 1000000000) (hx : failsA win A u now = x) :
    Calls Try.prog 14 #[.pointer (some ⟨b, 0, none⟩), .string u, .int .i64 now] w fun e w' => e = .returned (.int .i64 x) ∧ Dl W b c most win lock A B w' := by
  obtain ⟨S, T, hl, hr, hd, hs, ht⟩ := h.ex
  exact (fails_k S b most win lock A u now x w hl hu hx).mono fun e w' ⟨he, hb⟩ => ⟨he, h.step hb⟩
theorem drlocked (W : World) (b c : Nat) (most win lock : Int) (A B : Us) (u : ByteArray) (now : Int) (x : Bool) (w : World) (h : Dl W b c most win lock A B w) (hx : lockedA B u now = x) :
    Calls Try.prog 13 #[.pointer (some ⟨c, 0, none⟩), .string u, .int .i64 now] w fun e w' => e = .returned (.bool x) ∧ Dl W b c most win lock A B w' := by
  obtain ⟨S, T, hl, hr, hd, hs, ht⟩ := h.ex
  exact (rlocked_k T c most win lock B u now x w hr hx).mono fun e w' ⟨he, hb⟩ => ⟨he, h.step hb⟩
theorem drfails (W : World) (b c : Nat) (most win lock : Int) (A B : Us) (u : ByteArray) (now : Int) (x : Nat) (w : World) (h : Dl W b c most win lock A B w) (hx : failsA win B u now = x) :
    Calls Try.prog 15 #[.pointer (some ⟨c, 0, none⟩), .string u, .int .i64 now] w fun e w' => e = .returned (.int .i64 x) ∧ Dl W b c most win lock A B w' := by
  obtain ⟨S, T, hl, hr, hd, hs, ht⟩ := h.ex
  exact (rfails_k T c most win lock B u now x w hr h.ok h.nm hx).mono fun e w' ⟨he, e2⟩ => ⟨he, e2 ▸ h⟩
/-- both sides made anew -/
theorem dl_new {W w w' : World} {b : Nat} {most win lock : Int} (hl : LK w (fun i => W.heap.size ≤ i ∧ i < w.heap.size) b most win lock []) (hb : Below W.heap.size W w) (hr : RL w' (fun i => w.heap.size ≤ i ∧ i < w.heap.size + 1) w.heap.size most win lock []) (hw : w' = w.alloc (lkR most win lock (.slice none 0 0))) : Dl W b w.heap.size most win lock [] [] w' := by
  have hz : w'.heap.size = w.heap.size + 1 := by rw [hw, World.size_alloc]
  have hbw : Below w.heap.size w w' := hw ▸ box_bl w _
  have h2 := hb.size
  obtain ⟨g, ρ, hx⟩ := hl
  refine ⟨⟨_, _, LK.step ⟨g, ρ, hx⟩ hbw, hr, ?_, ?_, ?_⟩, hb.trans (hbw.mono h2), hx.ok, hx.num.w1⟩
  · intro i h1 h3; omega
  · intro i h1; have := h1.2; exact ⟨h1.1, by omega⟩
  · intro i h1; have := h1.1; have := h1.2; exact ⟨by omega, by omega⟩

end Go.Proofs.Ytclecajbcmmddaa
