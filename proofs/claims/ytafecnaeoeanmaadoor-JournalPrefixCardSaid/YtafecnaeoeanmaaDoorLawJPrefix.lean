/-
  Proved: identitylaw19.JournalPrefix returns true for every list of calls and every int (the tied card). No condition beyond the row's own.
-/
import Derived.Test.YtafecnaeoeanmaaDoorJouW
import Derived.Test.YtafecnaeoeanmaaDoorJouN
set_option linter.unusedVariables false
set_option linter.unusedSimpArgs false
set_option linter.unnecessarySimpa false
namespace Go.Proofs.YtafecnaeoeanmaaDoor
open Go.ChangeShapes Go.WideShapes Go.ChangeAt Go.RowKit Go.PlainAid
open Go.ChangeMaps (open_string shut_string)

/-- what the loop keeps -/
structure PxI (w : World) (b : Nat) (v : Value) (L : List ByteArray) (d : Nat) (W : World) : Prop where
  low : Below w.heap.size w W
  j : JA W w.heap.size b L d v
theorem PxI.step {w W V : World} {b d : Nat} {v : Value} {L : List ByteArray} (h : PxI w b v L d W) (hb : Below W.heap.size W V) : PxI w b v L d V :=
  ⟨h.low.trans (hb.mono h.low.size), h.j.step hb⟩
theorem do_k (B b d : Nat) (l l' : List ByteArray) (v : Value) (c n x : Int) (d' : Nat) (s : ByteArray) (w : World) (h : JA w B b l d v) (ho : WJ w) (hd : doL l d c n s = (l', d', x)) :
    Calls Tryd.prog 24 #[.pointer (some ⟨b, 0, none⟩), .agg #[.int .i64 c, .int .i64 n, .string s]] w fun e w' => ∃ b' v', e = .returned (.tuple #[.pointer (some ⟨b', 0, none⟩), .int .i64 x]) ∧ JA w' B b' l' d' v' ∧ Sv b v b' v' w w' := by
  have := do_s B b d l v c n s w h ho
  rw [hd] at this; exact this
theorem bytes_k (B b d : Nat) (l : List ByteArray) (v : Value) (q : ByteArray) (w : World) (h : JA w B b l d v) (ho : WJ w) (hq : encsS (l.take d) = q) :
    Calls Tryd.prog 22 #[.pointer (some ⟨b, 0, none⟩)] w fun e w' => e = .returned (.string q) ∧ Below w.heap.size w w' := by subst hq; exact bytes_s B b d l v w h ho
theorem light_k (ao : Option Addr) (n cap : Nat) (l : List Op) (r : Bool) (w : World) (h : OpsAt w ao n cap l) (hr : lightB l = r) :
    Calls Tryd.prog 15 #[.slice ao n cap] w fun e w' => e = .returned (.bool r) ∧ w = w' := by subst hr; exact light_s ao n cap l w h
theorem ops_cell {w : World} {b off n cap : Nat} {l : List Op} (h : OpsAt w (some ⟨b, off, none⟩) n cap l) {i : Nat} (hi : i < n) : ∀ V, Below w.heap.size w V → V.cell? ⟨b, off + i * 3, none⟩ = some (.int .i64 (opA l i).1) ∧ V.cell? ⟨b, off + i * 3 + 1, none⟩ = some (.int .i64 (opA l i).2.1) ∧ V.cell? ⟨b, off + i * 3 + 2, none⟩ = some (.string (opA l i).2.2) := by
  intro V hV
  obtain ⟨b', o', e, hc⟩ := (h.below hV).2.2.2.1 (by omega)
  cases e
  exact hc.2 i (by rw [h.1]; exact hi)
/-- what is read back from the durable records -/
theorem open_back {L : List ByteArray} {d : Nat} (hz : ∀ r ∈ L, r.size ≤ 4096) (hl : L.length ≤ 4096) : openL (encsS (L.take d)) = L.take d := by
  unfold openL
  rw [decS_encs fun r hr => hz r (List.mem_of_mem_take hr), List.take_of_length_le (by rw [List.length_take]; omega)]
theorem open_k (s : ByteArray) (L : List ByteArray) (n : Nat) (w : World) (hs : s.size ≤ 1000000000) (ho : WJ w) (hL : openL s = L) (hn : L.length = n) :
    Calls Tryd.prog 16 #[.string s] w fun e w' => ∃ b v, e = .returned (.pointer (some ⟨b, 0, none⟩)) ∧ JA w' w.heap.size b L n v ∧ Below w.heap.size w w' := by subst hL hn; exact open_s s w hs ho
theorem records_n (B b d : Nat) (l : List ByteArray) (v : Value) (n : Nat) (w : World) (h : JA w B b l d v) (hn : l.length = n) :
    Calls Tryd.prog 18 #[.pointer (some ⟨b, 0, none⟩)] w fun e w' => e = .returned (.slice (some ⟨w.heap.size, 0, none⟩) n n) ∧ w'.ownsRow w.heap.size 9 1 (.slice (some ⟨w.heap.size, 0, none⟩) n n) n (scells l) ∧ Below w.heap.size w w' := by subst hn; exact records_e B b d l v w h
theorem crash_k (B b d : Nat) (l L : List ByteArray) (v : Value) (k : Int) (n : Nat) (w : World) (h : JA w B b l d v) (ho : WJ w) (hL : crashL l d k = L) (hn : L.length = n) :
    Calls Tryd.prog 29 #[.pointer (some ⟨b, 0, none⟩), .int .i64 k] w fun e w' => e = .returned (.tuple #[]) ∧ ∃ v', JA w' B b L n v' ∧ Mv b v v' w w' := by subst hL hn; exact crash_s B b d l v k w h ho
set_option maxRecDepth 100000 in
set_option maxHeartbeats 2000000 in
theorem prefix_s (l : Option Addr) (ln lc : Nat) (ll : List Op) (keep : Int) (w : World) (hl : OpsAt w l ln lc ll) (hkeep : (Lit.int .i64 keep).wf = true) (ho : WJ w) :
    Calls Tryd.prog 6 #[.slice l ln lc, .int .i64 keep] w fun e w' => e = .returned (.bool true) ∧ Below w.heap.size w w' := by
  have HW := Lib.hid (Below.refl w.heap.size w)
  have HO := Lib.hid ho
  clear ho
  have HL := Lib.hid hl
  have HN := Lib.hid hl.1
  have hmx : ln ≤ 9223372036854775807 := by have h1 := hl.2.1; have h2 := hl.2.2.1; unfold maxLen at h2; omega
  clear hl hkeep
  obtain ⟨lb, hlb⟩ : ∃ r, lightB ll = r := ⟨_, rfl⟩
  have HB := Lib.hid hlb
  clear hlb
  cases lb
  · go_enter Tryd.func6, Tryd.ntmps6
    go_wp2_with fail
    refine (light_k l ln lc ll false _ HL.out HB.out).mono ?_
    rintro e w' ⟨rfl, rfl⟩
    go_wp2_with fail
    refine (live_s _ HO.out).mono ?_
    rintro e w1 ⟨rfl, hb⟩
    go_wp2_with fail
    go_ret
    exact ⟨rfl, hb⟩
  · go_enter Tryd.func6, Tryd.ntmps6
    go_wp2_with fail
    refine (light_k l ln lc ll true _ HL.out HB.out).mono ?_
    rintro e w' ⟨rfl, rfl⟩
    go_wp2_with fail
    refine (new_s _ HO.out).mono ?_
    rintro e w1 ⟨b1, v1, rfl, hj, hb⟩
    have HI := Lib.hid (show PxI w b1 v1 [] 0 w1 from ⟨hb, hj⟩)
    clear hj hb
    go_wp2_with fail
    go_loopw [5, 6] (fun jv iv wr => ∃ (i b d : Nat) (v : Value) (L : List ByteArray), i ≤ ln ∧ jv = .pointer (some ⟨b, 0, none⟩) ∧ iv = .int .i64 i ∧ Hid (PxI w b v L d wr)) (fun _ iv _ => ln - (intOf iv).toNat)
    case atStart => exact ⟨0, b1, 0, v1, [], Nat.zero_le _, rfl, rfl, HI⟩
    case round =>
      clear HI
      obtain ⟨i, b, d, v, L, hi, rfl, rfl, HI⟩ := hrel
      by_cases hlt : i < ln
      · have e1 : decide ((i : Int) < (ln : Int)) = true := decide_eq_true (by omega)
        have e1' : (i : Int) < (ln : Int) := by omega
        obtain ⟨bo, off, hao, _⟩ := HL.out.2.2.2.1 (by omega)
        subst hao
        have HC := Lib.hid (ops_cell HL.out hlt)
        obtain ⟨⟨oc, on, os⟩, hop⟩ : ∃ x, opA ll i = x := ⟨_, rfl⟩
        rw [hop] at HC
        clear hop
        obtain ⟨⟨L', d', x⟩, hd⟩ : ∃ x, doL L d oc on os = x := ⟨_, rfl⟩
        have HD := Lib.hid hd
        clear hd
        obtain ⟨l0, l1, l2⟩ := HC.out _ HI.out.low
        try dsimp only at l0 l1 l2
        go_wp2_with fail
        clear l0 l1 l2
        refine (do_k _ b d L L' v oc on x d' os _ HI.out.j (HO.out.at HI.out.low) HD.out).mono ?_
        rintro e w2 ⟨n1, y1, rfl, hj, hsv⟩
        have HI := Lib.hid (show PxI w n1 y1 L' d' w2 from ⟨HI.out.low.trans (hsv.below HI.out.j), hj⟩)
        clear hj hsv
        go_wp2_with fail
        go_roundw
        case rel => exact ⟨i + 1, n1, d', y1, L', by omega, rfl, by go_num, HI⟩
        case measure => simp [intOf]; omega
      · have e1 : decide ((i : Int) < (ln : Int)) = false := decide_eq_false (by omega)
        have e1' : ¬ (i : Int) < (ln : Int) := by omega
        obtain ⟨N, hN⟩ : ∃ N, L.length = N := ⟨_, rfl⟩
        have hdN : d ≤ N := by rw [← hN]; exact HI.out.j.dl
        have hN4 : N ≤ 4096 := by rw [← hN]; exact HI.out.j.cnt
        have HZ := Lib.hid HI.out.j.sm
        have HNN := Lib.hid hN
        obtain ⟨D, hD⟩ : ∃ D, L.take d = D := ⟨_, rfl⟩
        have HDl := Lib.hid (show D.length = d by rw [← hD, List.length_take, hN]; omega)
        obtain ⟨q, hq⟩ : ∃ q, encsS (L.take d) = q := ⟨_, rfl⟩
        have hq1 : q.size ≤ 1000000000 := by rw [← hq]; exact Nat.le_trans (szS_many (fun r hr => HZ.out r (List.mem_of_mem_take hr)) (by rw [List.length_take]; omega)) (by decide)
        have HOp := Lib.hid (show openL q = D by rw [← hq, open_back HZ.out (by rw [hN]; exact hN4), hD])
        have HQ := Lib.hid hq
        have HDD := Lib.hid hD
        obtain ⟨m, m1, m2, m3⟩ := crash_pre keep HI.out.j.dl HI.out.j.sm
        obtain ⟨M, hM⟩ : ∃ M, L.take m = M := ⟨_, rfl⟩
        rw [hM] at m3
        have HM := Lib.hid hM
        have HMl := Lib.hid (show M.length = m by rw [← hM, List.length_take]; omega)
        have HCr := Lib.hid m3
        have m2' : m ≤ N := by rw [← hN]; exact m2
        clear hN hD hq hM m2 m3
        have g1 : decide ((d : Int) < 0) = false := decide_eq_false (by omega)
        have g2 : decide ((N : Int) < (d : Int)) = false := decide_eq_false (by omega)
        have g3 : decide ((d : Int) ≤ (m : Int)) = true := decide_eq_true (by omega)
        have g4 : decide ((m : Int) ≤ (N : Int)) = true := decide_eq_true (by omega)
        have g5 : ((m : Int) == (m : Int)) = true := by simp
        go_wp2_with fail
        refine (records_n _ b d L v N _ HI.out.j HNN.out).mono ?_
        rintro e w2 ⟨rfl, hr, hb⟩
        have HR := Lib.hid (show RK w2 b v wr.heap.size (.slice (some ⟨wr.heap.size, 0, none⟩) N N) L from rk_new HI.out.j (by rw [HNN.out]; exact hr))
        have HI := Lib.hid (HI.out.step hb)
        clear hr hb
        go_wp2_with fail
        refine (durable_s _ b d L v _ HI.out.j).mono ?_
        rintro e w' ⟨rfl, rfl⟩
        go_wp2_with fail
        refine (bytes_k _ b d L v q _ HI.out.j (HO.out.at HI.out.low) HQ.out).mono ?_
        rintro e w3 ⟨rfl, hb⟩
        have HR := Lib.hid (HR.out.step hb)
        have HI := Lib.hid (HI.out.step hb)
        clear hb
        go_wp2_with fail
        refine (open_k q D d _ hq1 (HO.out.at HI.out.low) HOp.out HDl.out).mono ?_
        rintro e w4 ⟨b4, v4, rfl, hj, hb⟩
        have HJ4 := Lib.hid hj
        have HR := Lib.hid (HR.out.step hb)
        have HI := Lib.hid (HI.out.step hb)
        clear hj hb
        go_wp2_with fail
        have HR := Lib.hid (HR.out.step (Below.refl w4.heap.size w4).drew)
        have HI := Lib.hid (HI.out.step (Below.refl w4.heap.size w4).drew)
        have HJ4 := Lib.hid (HJ4.out.step (Below.refl w4.heap.size w4).drew)
        have hdN2 : (d : Int) ≤ (N : Int) := by omega
        have hdN3 : ¬ (N : Int) < (d : Int) := by omega
        have hdN4 : ¬ N < d := by omega
        have hdN5 : decide (N < d) = false := decide_eq_false hdN4
        refine wp_region_held_drew (S := fun _ => True) (by kernel_rfl) (trivial) (fun hS => ?_)
        refine wpAnyH_take (i := 0) (oi := { dst := some 44, op := _, type := _, pos := _, after := _, guard := _ }) (v := ?_) rfl (by kernel_rfl) (by kernel_rfl) (by kernel_rfl) (fun _ _ _ h => h) (Or.inl ⟨by rfl, ?_⟩) (by assumption) ?_
        rotate_left
        · intro w hSw
          try dsimp only at hSw
          go_simp
          try with_reducible rfl
        try simp only [Act.put, List.setIfInBounds_toArray, List.set_cons_zero, List.set_cons_succ]
        refine wpAnyH_take (i := 1) (oi := { dst := some 45, op := _, type := _, pos := _, after := _, guard := _ }) (v := ?_) rfl (by kernel_rfl) (by kernel_rfl) (by kernel_rfl) (fun _ _ _ h => h) (Or.inl ⟨by rfl, ?_⟩) (by assumption) ?_
        rotate_left
        · intro w hSw
          try dsimp only at hSw
          go_simp
          try with_reducible rfl
        try simp only [Act.put, List.setIfInBounds_toArray, List.set_cons_zero, List.set_cons_succ]
        refine wpAnyH_take (i := 2) (oi := { dst := some 46, op := _, type := _, pos := _, after := _, guard := _ }) (v := ?_) rfl (by kernel_rfl) (by kernel_rfl) (by kernel_rfl) (fun _ _ _ h => h) (Or.inl ⟨by rfl, ?_⟩) (by assumption) ?_
        rotate_left
        · intro w hSw
          try dsimp only at hSw
          go_simp
          try with_reducible rfl
        try simp only [Act.put, List.setIfInBounds_toArray, List.set_cons_zero, List.set_cons_succ]
        refine wpAnyH_take (i := 3) (oi := { dst := some 47, op := _, type := _, pos := _, after := _, guard := _ }) (v := ?_) rfl (by kernel_rfl) (by kernel_rfl) (by kernel_rfl) (fun _ _ _ h => h) (Or.inl ⟨by rfl, ?_⟩) (by assumption) ?_
        rotate_left
        · intro w hSw
          try dsimp only at hSw
          go_simp
          try with_reducible rfl
        try simp only [Act.put, List.setIfInBounds_toArray, List.set_cons_zero, List.set_cons_succ]
        refine wpAnyH_take (i := 4) (oi := { dst := some 48, op := _, type := _, pos := _, after := _, guard := _ }) (v := ?_) rfl (by kernel_rfl) (by kernel_rfl) (by kernel_rfl) (fun _ _ _ h => h) (Or.inl ⟨by rfl, ?_⟩) (by assumption) ?_
        rotate_left
        · intro w hSw
          try dsimp only at hSw
          go_simp
          try with_reducible rfl
        try simp only [Act.put, List.setIfInBounds_toArray, List.set_cons_zero, List.set_cons_succ]
        refine wpAnyH_take (i := 5) (oi := { dst := some 49, op := _, type := _, pos := _, after := _, guard := _ }) (v := ?_) rfl (by kernel_rfl) (by kernel_rfl) (by kernel_rfl) (fun _ _ _ h => h) (Or.inl ⟨by rfl, ?_⟩) (by assumption) ?_
        rotate_left
        · intro w hSw
          try dsimp only at hSw
          go_simp
          try with_reducible rfl
        try simp only [Act.put, List.setIfInBounds_toArray, List.set_cons_zero, List.set_cons_succ]
        refine wpAnyH_take (i := 6) (oi := { dst := some 50, op := _, type := _, pos := _, after := _, guard := _ }) (v := ?_) rfl (by kernel_rfl) (by kernel_rfl) (by kernel_rfl) (fun _ _ _ h => h) (Or.inl ⟨by rfl, ?_⟩) (by assumption) ?_
        rotate_left
        · intro w hSw
          try dsimp only at hSw
          go_simp
          try with_reducible rfl
        try simp only [Act.put, List.setIfInBounds_toArray, List.set_cons_zero, List.set_cons_succ]
        refine wpAnyH_take (i := 7) (oi := { dst := some 51, op := _, type := _, pos := _, after := _, guard := _ }) (v := ?_) rfl (by kernel_rfl) (by kernel_rfl) (by kernel_rfl) (fun _ _ _ h => h) (Or.inl ⟨by rfl, ?_⟩) (by assumption) ?_
        rotate_left
        · intro w hSw
          try dsimp only at hSw
          go_simp
          try with_reducible rfl
        try simp only [Act.put, List.setIfInBounds_toArray, List.set_cons_zero, List.set_cons_succ]
        refine wpAnyH_take (i := 8) (oi := { dst := some 52, op := _, type := _, pos := _, after := _, guard := _ }) (v := ?_) rfl (by kernel_rfl) (by kernel_rfl) (by kernel_rfl) (fun _ _ _ h => h) (Or.inl ⟨by rfl, ?_⟩) (by assumption) ?_
        rotate_left
        · intro w hSw
          try dsimp only at hSw
          go_simp
          try with_reducible rfl
        try simp only [Act.put, List.setIfInBounds_toArray, List.set_cons_zero, List.set_cons_succ]
        refine wpAnyH_take (i := 9) (oi := { dst := some 53, op := _, type := _, pos := _, after := _, guard := _ }) (v := ?_) rfl (by kernel_rfl) (by kernel_rfl) (by kernel_rfl) (fun _ _ _ h => h) (Or.inl ⟨by rfl, ?_⟩) (by assumption) ?_
        rotate_left
        · intro w hSw
          try dsimp only at hSw
          go_simp
          try with_reducible rfl
        try simp only [Act.put, List.setIfInBounds_toArray, List.set_cons_zero, List.set_cons_succ]
        refine wpAnyH_take (i := 10) (oi := { dst := some 54, op := _, type := _, pos := _, after := _, guard := _ }) (v := ?_) rfl (by kernel_rfl) (by kernel_rfl) (by kernel_rfl) (fun _ _ _ h => h) (Or.inl ⟨by rfl, ?_⟩) (by assumption) ?_
        rotate_left
        · intro w hSw
          try dsimp only at hSw
          go_simp
          try with_reducible rfl
        try simp only [Act.put, List.setIfInBounds_toArray, List.set_cons_zero, List.set_cons_succ]
        refine wpAnyH_take (i := 11) (oi := { dst := some 55, op := _, type := _, pos := _, after := _, guard := _ }) (v := ?_) rfl (by kernel_rfl) (by kernel_rfl) (by kernel_rfl) (fun _ _ _ h => h) (Or.inl ⟨by rfl, ?_⟩) (by assumption) ?_
        rotate_left
        · intro w hSw
          try dsimp only at hSw
          go_simp
          try with_reducible rfl
        try simp only [Act.put, List.setIfInBounds_toArray, List.set_cons_zero, List.set_cons_succ]
        refine wpAnyH_take (i := 12) (oi := { dst := some 56, op := _, type := _, pos := _, after := _, guard := _ }) (v := ?_) rfl (by kernel_rfl) (by kernel_rfl) (by kernel_rfl) (fun _ _ _ h => h) (Or.inl ⟨by rfl, ?_⟩) (by assumption) ?_
        rotate_left
        · intro w hSw
          try dsimp only at hSw
          go_simp
          try with_reducible rfl
        try simp only [Act.put, List.setIfInBounds_toArray, List.set_cons_zero, List.set_cons_succ]
        refine wpAnyH_take (i := 13) (oi := { dst := some 57, op := _, type := _, pos := _, after := _, guard := _ }) (v := ?_) rfl (by kernel_rfl) (by kernel_rfl) (by kernel_rfl) (fun _ _ _ h => h) (Or.inl ⟨by rfl, ?_⟩) (by assumption) ?_
        rotate_left
        · intro w hSw
          try dsimp only at hSw
          go_simp
          try with_reducible rfl
        try simp only [Act.put, List.setIfInBounds_toArray, List.set_cons_zero, List.set_cons_succ]
        refine wpAnyH_take (i := 15) (oi := { dst := some 59, op := _, type := _, pos := _, after := _, guard := _ }) (v := ?_) rfl (by kernel_rfl) (by kernel_rfl) (by kernel_rfl) (fun _ _ _ h => h) (Or.inl ⟨by rfl, ?_⟩) (by assumption) ?_
        rotate_left
        · intro w hSw
          try dsimp only at hSw
          go_simp
          try with_reducible rfl
        try simp only [Act.put, List.setIfInBounds_toArray, List.set_cons_zero, List.set_cons_succ]
        refine wpAnyH_take (i := 16) (oi := { dst := some 60, op := _, type := _, pos := _, after := _, guard := _ }) (v := ?_) rfl (by kernel_rfl) (by kernel_rfl) (by kernel_rfl) (fun _ _ _ h => h) (Or.inl ⟨by rfl, ?_⟩) (by assumption) ?_
        rotate_left
        · intro w hSw
          try dsimp only at hSw
          go_simp
          try with_reducible rfl
        try simp only [Act.put, List.setIfInBounds_toArray, List.set_cons_zero, List.set_cons_succ]
        refine wpAnyH_take (i := 17) (oi := { dst := some 61, op := _, type := _, pos := _, after := _, guard := _ }) (v := ?_) rfl (by kernel_rfl) (by kernel_rfl) (by kernel_rfl) (fun _ _ _ h => h) (Or.inl ⟨by rfl, ?_⟩) (by assumption) ?_
        rotate_left
        · intro w hSw
          try dsimp only at hSw
          go_simp
          try with_reducible rfl
        try simp only [Act.put, List.setIfInBounds_toArray, List.set_cons_zero, List.set_cons_succ]
        refine wpAnyH_ready (rs := [14]) (by kernel_rfl) (by simp) ?_
        refine AllReadyH.cons rfl (fun K hK => ?_) AllReadyH.nil
        go_simp
        refine (records_n _ b4 d D v4 d _ HJ4.out HDl.out).mono ?_
        rintro e w5 ⟨rfl, hr, hb⟩
        have HS5 := Lib.hid (strs_of hr HDl.out)
        have HR := Lib.hid (HR.out.step hb)
        have HI := Lib.hid (HI.out.step hb)
        have HC5 := Lib.hid (show StrsAt w5 (some ⟨wr.heap.size, 0, none⟩) d N D from by rw [← HDD.out]; exact (RK.strs HR.out HNN.out).upto d hdN)
        clear hr hb
        go_wp2_with fail
        refine hK.out _ _ ?_ (fun hHeld => ?_)
        · exact trivial
        clear hK K
        try simp only [Act.put, List.setIfInBounds_toArray, List.set_cons_zero, List.set_cons_succ]
        refine wpAnyH_ready (rs := [18]) (by kernel_rfl) (by simp) ?_
        refine AllReadyH.cons rfl (fun K hK => ?_) AllReadyH.nil
        go_simp
        refine (same_k _ _ d d _ _ D D true _ HS5.out HC5.out (decide_eq_true rfl)).mono ?_
        rintro e w6 ⟨rfl, hb⟩
        have HR := Lib.hid (HR.out.step hb)
        have HI := Lib.hid (HI.out.step hb)
        clear hb
        go_wp2_with fail
        refine hK.out _ _ ?_ (fun hHeld => ?_)
        · exact trivial
        clear hK K
        try simp only [Act.put, List.setIfInBounds_toArray, List.set_cons_zero, List.set_cons_succ]
        refine wpAnyH_take (i := 19) (oi := { dst := some 63, op := _, type := _, pos := _, after := _, guard := _ }) (v := ?_) rfl (by kernel_rfl) (by kernel_rfl) (by kernel_rfl) (fun _ _ _ h => h) (Or.inl ⟨by rfl, ?_⟩) (by assumption) ?_
        rotate_left
        · intro w hSw
          try dsimp only at hSw
          go_simp
          try with_reducible rfl
        try simp only [Act.put, List.setIfInBounds_toArray, List.set_cons_zero, List.set_cons_succ]
        refine wpAnyH_take (i := 20) (oi := { dst := some 64, op := _, type := _, pos := _, after := _, guard := _ }) (v := ?_) rfl (by kernel_rfl) (by kernel_rfl) (by kernel_rfl) (fun _ _ _ h => h) (Or.inl ⟨by rfl, ?_⟩) (by assumption) ?_
        rotate_left
        · intro w hSw
          try dsimp only at hSw
          go_simp
          try with_reducible rfl
        try simp only [Act.put, List.setIfInBounds_toArray, List.set_cons_zero, List.set_cons_succ]
        refine wpAnyH_done (by kernel_rfl) ?_ _
        go_wp2_with fail
        refine (crash_k _ b d L M v keep m _ HI.out.j (HO.out.at HI.out.low) HCr.out HMl.out).mono ?_
        rintro e w7 ⟨rfl, v7, hj, hm⟩
        have HR := Lib.hid (HR.out.move hm)
        have HI := Lib.hid (show PxI w b v7 M m w7 from ⟨HI.out.low.trans (hm.below HI.out.j), hj⟩)
        clear hj hm
        go_wp2_with fail
        refine (records_n _ b m M v7 m _ HI.out.j HMl.out).mono ?_
        rintro e w8 ⟨rfl, hr, hb⟩
        have HS8 := Lib.hid (strs_of hr HMl.out)
        have HR := Lib.hid (HR.out.step hb)
        have HI := Lib.hid (HI.out.step hb)
        have HC8 := Lib.hid (show StrsAt w8 (some ⟨wr.heap.size, 0, none⟩) m N M from by rw [← HM.out]; exact (RK.strs HR.out HNN.out).upto m m2')
        clear hr hb
        go_wp2_with fail
        refine (same_k _ _ m m _ _ M M true _ HS8.out HC8.out (decide_eq_true rfl)).mono ?_
        rintro e w9 ⟨rfl, hb⟩
        have HI := Lib.hid (HI.out.step hb)
        clear hb
        go_wp2_with fail
        refine (durable_s _ b m M v7 _ HI.out.j).mono ?_
        rintro e w' ⟨rfl, rfl⟩
        go_wp2_with fail
        refine (live_s _ (HO.out.at HI.out.low)).mono ?_
        rintro e w10 ⟨rfl, hb⟩
        have HI := Lib.hid (HI.out.step hb)
        clear hb
        go_wp2_with fail
        go_ret
        exact ⟨rfl, HI.out.low⟩

theorem prefix_types : ∀ t ∈ [29, 3], Tryd.prog.readableRec t = true ∧ t < Tryd.prog.types.size := by
  have h : ([29, 3].all fun t => Tryd.prog.readableRec t && decide (t < Tryd.prog.types.size)) = true := by kernel_rfl
  intro t ht
  have := List.all_eq_true.1 h t ht
  simpa using this

set_option maxRecDepth 100000 in
theorem prefix_contract (H : Type) (enc : TypeId × Value → H) (W : World) (base : Nat) (args : Array Value) (ds gs : List (DataW H)) (before : List MemPlace)
    (hval : ∀ (j : Nat) t v, Tryd.f6.params[j]? = some t → args[j]? = some v → Value.okWide Tryd.prog W .any base t v)
    (hW : DataW.Whole enc Tryd.prog Tryd.f6.params.toList Rows.journalPrefixSpec.vars false W args.toList ds gs before) (hL : laidMetH Tryd.prog Rows.journalPrefixRow.laid W) (hsh : W.ShapedOpen Tryd.prog) :
    Calls Tryd.prog 6 args W fun e W' => ∃ v, e = .returned v ∧ Rows.journalPrefixSpec.post enc Tryd.prog Tryd.f6 false true false false W args v W' := by
  have hW' := hW
  obtain ⟨p, q, hA0, hV, rfl, hfz, hnd⟩ := hW
  have hA : DataW.TrodAll enc Tryd.prog W 0 (fun _ => true) true Tryd.f6.params.toList args.toList ds p := hA0
  obtain ⟨rfl, rfl⟩ := trodVars_none hV
  simp only [List.append_nil] at hW'
  have hlt : ∀ x ∈ p, x.block < W.heap.size := fun x hx => by simpa using hW'.lt x hx
  have fin : ∀ W', Below W.heap.size W W' → DataW.TrodAll enc Tryd.prog W' 0 (fun b => decide (b < W.heap.size)) true [29, 3] args.toList ds p := fun W' hb => by
    rw [Tryd.params6] at hA
    exact trodAll_below hb _ _ _ _ prefix_types hA hlt
  clear hA0
  rw [Tryd.params6] at hA hval
  obtain ⟨v0, vs0, d0, ds0, p0, q0, hargs, rfl, hp0, h0, r0⟩ := trodAll_cons hA
  obtain ⟨v1, vs1, d1, ds1, p1, q1, rfl, rfl, hp1, h1, r1⟩ := trodAll_cons r0
  obtain ⟨rfl, rfl, rfl⟩ := trodAll_nil r1
  obtain rfl : args = #[v0, v1] := by cases args; simp_all
  obtain ⟨l, ln, lc, ll, rfl, hs0⟩ := open_ops (hval 0 29 v0 rfl rfl) h0
  obtain ⟨keep, rfl, rfl, rfl, hs1⟩ := open_int Tryd.underlying3 (hval 1 3 v1 rfl rfl) h1
  refine (prefix_s l ln lc ll keep W hs0 hs1 (wj_of hL hsh)).mono fun e W' ⟨he, hb⟩ => ?_
  subst he
  exact ⟨_, rfl, _, _, _, [], p, [], hW', trodAll_mk1 (shut_bool Tryd.underlying4 _), fin W' hb, rfl, hb.frame _, fun h => by cases h⟩

set_option maxRecDepth 100000 in
theorem prefix_lifted (os : Os) (started : os.Started) (H : Type) (enc : TypeId × Value → H) (F : Stop.Interp) :
    ReturnsInHanded {} Tryd.checked os 6 .any ((OpenSpec.ofChange Rows.journalPrefixSpec).preRow enc Tryd.prog Tryd.f6 Rows.journalPrefixRow.domain false Rows.journalPrefixRow.laid) (((OpenSpec.ofChange Rows.journalPrefixSpec).at F).post enc Tryd.prog Tryd.f6 false true false false) := by
  refine returnsInHanded_of_row (C := Tryd.checked) (s := OpenSpec.ofChange Rows.journalPrefixSpec) own started (by kernel_rfl) Tryd.func6
    (witness_row (enc := enc) (C := Tryd.checked) false (World.laidAll Tryd.prog os Rows.journalPrefixRow.laid) #[.slice none 0 0, .int .i64 0] (World.laidAll_os _ _ _)
      (World.shaped_of_ZipB (by kernel_rfl) (by kernel_rfl)) (by kernel_rfl)
      (OpenSpec.preRow_of_cond 8 (x := ([.nil, .lit (.int .i64 0)], [], [])) (by kernel_rfl) (by kernel_rfl) (fun k hk => by cases hk) (by kernel_rfl)
        (by rw [MakeChecks.laidMetH_plain _ _ _ (by kernel_rfl)]; exact laidMet_laidAll _ (by kernel_rfl) (by kernel_rfl)))) ?_
  intro W base args ds gs before hval hW _ _ _ hL hsh _
  exact prefix_contract H enc W base args ds gs before hval hW hL hsh

set_option maxRecDepth 100000 in
theorem prefix_said : Rows.JournalPrefixSaid :=
  OpenClaim.holds_of_cond 6 Tryd.f6 rfl rfl rfl rfl rfl rfl rfl ⟨rfl, rfl, rfl, rfl, rfl⟩ rfl rfl rfl rfl rfl (by kernel_rfl) Tryd.func6 (by kernel_rfl)
    (of_decide_eq_true (by kernel_rfl)) (by unfold Func.isWrapper; first | (rw [if_pos (by decide +kernel)]; kernel_rfl) | (rw [if_neg (by decide +kernel)]; exact ⟨rfl, rfl⟩))
    (fun os started H enc _ F => by rw [OpenClaim.pre_eq_preRow]; exact prefix_lifted os started H enc F)

set_option maxRecDepth 100000 in
theorem prefix_plain (f : FuncId) (fn : Func) (hf : Tryd.pinned.checked.prog.funcNamed "identity/identitylaw19.JournalPrefix" = some f) (hfn : Tryd.pinned.checked.prog.funcs[f]? = some fn) :
    true = Tryd.pinned.checked.prog.looks [] ∧ ∀ (j : Nat) t, fn.params[j]? = some t → Tryd.pinned.checked.prog.wantsStandIn t = false := by
  obtain rfl : f = 6 := Option.some.inj ((show Tryd.prog.funcNamed "identity/identitylaw19.JournalPrefix" = some 6 by kernel_rfl).symm.trans hf) |>.symm
  obtain rfl : fn = Tryd.f6 := (Option.some.inj (Tryd.func6.symm.trans hfn)).symm
  refine ⟨by kernel_rfl, fun j t ht => ?_⟩
  rw [Tryd.params6] at ht
  have hm : t ∈ [29, 3] := by simpa using Array.mem_of_getElem? ht
  have hall : ([29, 3].all fun u => !Tryd.prog.wantsStandIn u) = true := by kernel_rfl
  exact (show Tryd.prog.wantsStandIn t = false by simpa using List.all_eq_true.1 hall t hm)

/-- THE CARD -/
theorem prefix_card : Rows.JournalPrefixCardSaid :=
  Claim7.holds_tied_plain_at .later [] _ _ _ _ prefix_said (fun _ h => by cases h) (by kernel_rfl) (fun _ h => by cases h) journalPrefix_row_tie rfl ⟨rfl, rfl⟩ (by kernel_rfl) rfl prefix_plain (by kernel_rfl)
end Go.Proofs.YtafecnaeoeanmaaDoor
