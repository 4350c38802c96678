/-
  A register of the call's own; the contracts of the law's few, alive and play. Condition: calls as they came in.
-/
import Derived.Test.YteoaekjhicphlaaOncT
import Derived.Test.YteoaekjhicphlaaOncOps
set_option maxRecDepth 100000
set_option linter.unusedVariables false
set_option linter.unusedSimpArgs false
set_option linter.unnecessarySimpa false
namespace Go.Proofs.Yteoaekjhicphlaa
open Go.RowKit Go.PlainAid

/-- a register that the call has made -/
structure Pl (W : World) (b g : Nat) (most : Int) (A : Ol) (w : World) : Prop where
  ox : OX w b g most A
  lb : W.heap.size ≤ b
  lg : W.heap.size ≤ g
  low : Below W.heap.size W w
section
variable {W w V : World} {b g : Nat} {most : Int} {A A' : Ol}
theorem Pl.step (h : Pl W b g most A w) (hb : Below w.heap.size w V) : Pl W b g most A V := ⟨h.ox.step hb, h.lb, h.lg, h.low.trans (hb.mono h.low.size)⟩
theorem Pl.move (h : Pl W b g most A w) (ho : OX V b g most A') (hg : w.grownBy V (some g)) : Pl W b g most A' V :=
  ⟨ho, h.lb, h.lg, h.low.trans ⟨hg.os, hg.tape, hg.output, hg.size, fun k hk => hg.block k (Nat.lt_of_lt_of_le hk h.low.size) (fun e => by have := h.lg; injection e with e; omega)⟩⟩
end
theorem pnew (most : Int) (W w : World) (hb : Below W.heap.size W w) (h0 : 1 ≤ most) (h1 : most ≤ 256) :
    Calls Try.prog 11 #[.int .i64 most] w fun e w' => ∃ b, e = .returned (.tuple #[.pointer (some ⟨b, 0, none⟩), .int .i64 0]) ∧ ∃ g, Pl W b g most [] w' ∧ Below w.heap.size w w' ∧ w.heap.size ≤ b ∧ w.heap.size ≤ g :=
  (new_s most w h0 h1).mono fun e w' ⟨b, he, g, ho, h2, h3, h4⟩ => ⟨b, he, g, ⟨ho, Nat.le_trans hb.size h2, Nat.le_trans hb.size h3, hb.trans (h4.mono hb.size)⟩, h4, h2, h3⟩
theorem puse (W : World) (b g : Nat) (most : Int) (A A' : Ol) (u : ByteArray) (x now r : Int) (w : World) (h : Pl W b g most A w) (hu : u.size ≤ 1000000000) (hr : useP most A u (limI x) (limI now) = (r, A')) :
    Calls Try.prog 13 #[.pointer (some ⟨b, 0, none⟩), .string u, .int .i64 x, .int .i64 now] w fun e w' => e = .returned (.int .i64 r) ∧ Pl W b g most A' w' ∧ w.grownBy w' (some g) :=
  (use_s b g most A A' u x now _ _ r w h.ox hu rfl rfl hr).mono fun e w' ⟨he, ho, hg⟩ => ⟨he, h.move ho hg, hg⟩
theorem pseen (W : World) (b g : Nat) (most : Int) (A : Ol) (u : ByteArray) (now : Int) (x : Bool) (w : World) (h : Pl W b g most A w) (hu : u.size ≤ 1000000000) (hx : decide (limI now < atA A u) = x) :
    Calls Try.prog 15 #[.pointer (some ⟨b, 0, none⟩), .string u, .int .i64 now] w fun e w' => e = .returned (.bool x) ∧ Pl W b g most A w' ∧ Below w.heap.size w w' :=
  (seen_s b g most A u now _ x w h.ox hu rfl hx).mono fun e w' ⟨he, hb⟩ => ⟨he, h.step hb, hb⟩
theorem ppurge (W : World) (b g : Nat) (most : Int) (A B : Ol) (now k : Int) (w : World) (h : Pl W b g most A w) (hB : purA A (limI now) = B) (hk : (A.length : Int) - (B.length : Int) = k) :
    Calls Try.prog 17 #[.pointer (some ⟨b, 0, none⟩), .int .i64 now] w fun e w' => e = .returned (.int .i64 k) ∧ Pl W b g most B w' ∧ w.grownBy w' (some g) :=
  (purge_s b g most A B now _ k w h.ox rfl hB hk).mono fun e w' ⟨he, ho, hg⟩ => ⟨he, h.move ho hg, hg⟩
theorem plen (W : World) (b g : Nat) (most : Int) (A : Ol) (n : Nat) (w : World) (h : Pl W b g most A w) (hn : A.length = n) :
    Calls Try.prog 19 #[.pointer (some ⟨b, 0, none⟩)] w fun e w' => e = .returned (.int .i64 n) ∧ w = w' := len_s b g most A n w h.ox hn

/-! ### the chapter's examples -/
def sA : ByteArray := ⟨#[97]⟩
def sB : ByteArray := ⟨#[98]⟩
def sC : ByteArray := ⟨#[99]⟩
def ol1 : Ol := [(sA, 10)]
def ol2 : Ol := [(sB, 20)]
theorem ex1 : useP 1 [] sA (limI 10) (limI 5) = (0, ol1) := by decide +kernel
theorem ex2 : useP 1 ol1 sA (limI 10) (limI 9) = (18, ol1) := by decide +kernel
theorem ex3 : useP 1 ol1 sB (limI 20) (limI 9) = (3, ol1) := by decide +kernel
theorem ex4 : useP 1 ol1 sB (limI 20) (limI 10) = (0, ol2) := by decide +kernel
theorem ex5 : useP 1 ol2 sC (limI 10) (limI 10) = (13, ol2) := by decide +kernel
theorem ex6 : useP 1 ol2 ⟨#[]⟩ (limI 10) (limI 5) = (5, ol2) := by decide +kernel
theorem ex7 : decide (limI 19 < atA ol2 sB) = true := by decide +kernel
theorem ex8 : decide (limI 20 < atA ol2 sB) = false := by decide +kernel
theorem ex9 : decide (limI 5 < atA ol2 sA) = false := by decide +kernel
theorem ex10 : purA ol2 (limI 20) = [] := by decide +kernel
set_option maxHeartbeats 8000000 in
theorem alive_s (w : World) :
    Calls Try.prog 10 #[] w fun e w' => e = .returned (.bool true) ∧ Below w.heap.size w w' := by
  have hA : sA = ⟨#[97]⟩ := rfl
  have hB : sB = ⟨#[98]⟩ := rfl
  have hC : sC = ⟨#[99]⟩ := rfl
  have HA := Lib.hid hA
  have HB := Lib.hid hB
  have HC := Lib.hid hC
  clear hA hB hC
  go_enter Try.func10, Try.ntmps10
  go_wp2_with fail
  refine (pnew 1 w _ (Below.refl _ _) (by decide) (by decide)).mono ?_
  rintro e w1 ⟨b, rfl, g, hp, _, _, _⟩
  have HP := Lib.hid hp
  clear hp
  go_wp2_with fail
  refine (new_bad 0 _ (by decide)).mono ?_
  rintro e w' ⟨rfl, rfl⟩
  go_wp2_with fail
  refine (puse w b g 1 [] ol1 sA 10 5 0 _ HP.out (by decide) ex1).mono ?_
  rintro e w2 ⟨rfl, hp, _⟩
  have HP := Lib.hid hp
  clear hp
  go_wp2_with fail
  refine (puse w b g 1 ol1 ol1 sA 10 9 18 _ HP.out (by decide) ex2).mono ?_
  rintro e w3 ⟨rfl, hp, _⟩
  have HP := Lib.hid hp
  clear hp
  go_wp2_with fail
  refine (puse w b g 1 ol1 ol1 sB 20 9 3 _ HP.out (by decide) ex3).mono ?_
  rintro e w4 ⟨rfl, hp, _⟩
  have HP := Lib.hid hp
  clear hp
  go_wp2_with fail
  refine (puse w b g 1 ol1 ol2 sB 20 10 0 _ HP.out (by decide) ex4).mono ?_
  rintro e w5 ⟨rfl, hp, _⟩
  have HP := Lib.hid hp
  clear hp
  go_wp2_with fail
  refine (puse w b g 1 ol2 ol2 sC 10 10 13 _ HP.out (by decide) ex5).mono ?_
  rintro e w6 ⟨rfl, hp, _⟩
  have HP := Lib.hid hp
  clear hp
  go_wp2_with fail
  refine (puse w b g 1 ol2 ol2 ⟨#[]⟩ 10 5 5 _ HP.out (by decide) ex6).mono ?_
  rintro e w7 ⟨rfl, hp, _⟩
  have HP := Lib.hid hp
  clear hp
  go_wp2_with fail
  refine (plen w b g 1 ol2 1 _ HP.out rfl).mono ?_
  rintro e w' ⟨rfl, rfl⟩
  go_wp2_with fail
  refine (pseen w b g 1 ol2 sB 19 true _ HP.out (by decide) ex7).mono ?_
  rintro e w8 ⟨rfl, hp, _⟩
  have HP := Lib.hid hp
  clear hp
  go_wp2_with fail
  refine (pseen w b g 1 ol2 sB 20 false _ HP.out (by decide) ex8).mono ?_
  rintro e w9 ⟨rfl, hp, _⟩
  have HP := Lib.hid hp
  clear hp
  go_wp2_with fail
  refine (pseen w b g 1 ol2 sA 5 false _ HP.out (by decide) ex9).mono ?_
  rintro e w10 ⟨rfl, hp, _⟩
  have HP := Lib.hid hp
  clear hp
  go_wp2_with fail
  refine (ppurge w b g 1 ol2 [] 20 1 _ HP.out ex10 rfl).mono ?_
  rintro e w11 ⟨rfl, hp, _⟩
  have HP := Lib.hid hp
  clear hp
  go_wp2_with fail
  refine (plen w b g 1 [] 0 _ HP.out rfl).mono ?_
  rintro e w' ⟨rfl, rfl⟩
  go_wp2_with fail
  go_ret
  exact ⟨rfl, HP.out.low⟩

/-! ### few calls with short identifiers -/
def fewB (ll : List Oc) : Bool := decide (ll.length ≤ 25) && (List.range ll.length).all fun j => decide ((ocA ll j).id.size ≤ 100)
theorem fewB_out {ll : List Oc} (h : fewB ll = true) : ll.length ≤ 25 ∧ ∀ j, j < ll.length → (ocA ll j).id.size ≤ 100 := by
  unfold fewB at h
  rw [Bool.and_eq_true, decide_eq_true_eq, List.all_eq_true] at h
  exact ⟨h.1, fun j hj => of_decide_eq_true (h.2 j (List.mem_range.2 hj))⟩
theorem fewB_big {ll : List Oc} {i : Nat} (hi : i < ll.length) (h : 100 < (ocA ll i).id.size) : fewB ll = false := by
  rw [Bool.eq_false_iff]; intro e; have := (fewB_out e).2 i hi; omega
theorem fewB_end {ll : List Oc} (h2 : ∀ j, j < ll.length → (ocA ll j).id.size ≤ 100) : fewB ll = decide (ll.length ≤ 25) := by
  unfold fewB
  have : ((List.range ll.length).all fun j => decide ((ocA ll j).id.size ≤ 100)) = true := List.all_eq_true.2 fun j hj => decide_eq_true (h2 j (List.mem_range.1 hj))
  rw [this, Bool.and_true]
set_option maxHeartbeats 4000000 in
theorem few_k (l : Option Addr) (n c : Nat) (ll : List Oc) (x : Bool) (w : World) (h : OcsAt w l n c ll) (hx : fewB ll = x) :
    Calls Try.prog 9 #[.slice l n c] w fun e w' => e = .returned (.bool x) ∧ w = w' := by
  have HL := Lib.hid h
  have HX := Lib.hid hx
  clear hx
  obtain ⟨hl1, hl2, hl3, _, _⟩ := h
  subst hl1
  unfold maxLen at hl3
  go_enter Try.func9, Try.ntmps9
  go_wp2_with fail
  go_loopw [3] (fun iv wr => ∃ i : Nat, i ≤ ll.length ∧ iv = .int .i64 i ∧ wr = w ∧ Hid (∀ j, j < i → (ocA ll j).id.size ≤ 100)) (fun iv _ => ll.length - (intOf iv).toNat)
  case atStart => exact ⟨0, Nat.zero_le _, rfl, rfl, Lib.hid (fun j hj => absurd hj (Nat.not_lt_zero _))⟩
  case round =>
    obtain ⟨i, hi, rfl, rfl, HS⟩ := hrel
    by_cases hlt : i < ll.length
    · have di : (i : Int) < (ll.length : Int) := by omega
      obtain ⟨lb, lo, hla, hls⟩ := HL.out.2.2.2.1 (by omega)
      subst hla
      obtain ⟨c0, c1, c2, c3⟩ := hls.at_ hlt
      clear hls
      obtain ⟨⟨q, u, x1, m⟩, hc⟩ : ∃ c, ocA ll i = c := ⟨_, rfl⟩
      rw [hc] at c0 c1 c2 c3
      have HC := Lib.hid hc
      clear hc
      dsimp only at c0 c1 c2 c3
      by_cases hu : 100 < u.size
      · have du : (100 : Int) < (u.size : Int) := by omega
        have HE := Lib.hid (HX.out.symm.trans (fewB_big hlt (by rw [HC.out]; exact hu)))
        go_wp2_with fail
        go_ret
        exact ⟨by rw [HE.out]; rfl, rfl⟩
      · have du : ¬ (100 : Int) < (u.size : Int) := by omega
        have HS1 : Hid (∀ j, j < i + 1 → (ocA ll j).id.size ≤ 100) := Lib.hid fun j hj => if e : j = i then by rw [e, HC.out]; exact Nat.le_of_not_lt hu else HS.out j (by omega)
        go_wp2_with fail
        go_roundw
        case rel => exact ⟨i + 1, by omega, by go_num, trivial, HS1⟩
        case measure => simp [intOf]; omega
    · have di : ¬ (i : Int) < (ll.length : Int) := by omega
      obtain rfl : i = ll.length := by omega
      have HE := Lib.hid (HX.out.symm.trans (fewB_end HS.out))
      by_cases h25 : ll.length ≤ 25
      · have dn : (ll.length : Int) ≤ 25 := by omega
        have HE2 := Lib.hid (HE.out.trans (decide_eq_true h25))
        go_wp2_with fail
        go_ret
        exact ⟨by rw [HE2.out]; rfl, rfl⟩
      · have dn : ¬ (ll.length : Int) ≤ 25 := by omega
        have HE2 := Lib.hid (HE.out.trans (decide_eq_false h25))
        go_wp2_with fail
        go_ret
        exact ⟨by rw [HE2.out]; rfl, rfl⟩

/-! ### play -/
def plS (most : Int) (A : Ol) (o : Oc) : Ol := if o.kd = 0 then (useP most A o.id (limI o.un) (limI o.nw)).2 else if o.kd = 2 then purA A (limI o.nw) else A
def plA (most : Int) (A : Ol) (ll : List Oc) : Ol := ll.foldl (plS most) A
theorem plA_next {most : Int} {A B : Ol} {ll : List Oc} {i : Nat} (hi : i < ll.length) (h : plA most A (ll.take i) = B) : plA most A (ll.take (i + 1)) = plS most B (ocA ll i) := by
  unfold plA at *
  rw [take_oc ll i hi, List.foldl_append, h]; rfl
theorem OcsAt.cells {W V : World} {lb lo n c : Nat} {ll : List Oc} (h : OcsAt W (some ⟨lb, lo, none⟩) n c ll) {i : Nat} (hi : i < n) {q x m : Int} {u : ByteArray} (hc : ocA ll i = ⟨q, u, x, m⟩) (hV : Below W.heap.size W V) :
    V.cell? ⟨lb, lo + i * 4, none⟩ = some (.int .i64 q) ∧ V.cell? ⟨lb, lo + i * 4 + 1, none⟩ = some (.string u) ∧ V.cell? ⟨lb, lo + i * 4 + 2, none⟩ = some (.int .i64 x) ∧ V.cell? ⟨lb, lo + i * 4 + 3, none⟩ = some (.int .i64 m) := by
  obtain ⟨b, off, e, hi2⟩ := h.2.2.2.1 (by omega)
  cases e
  have := (hi2.below hV hi2.1).at_ (by rw [h.1]; exact hi)
  rw [hc] at this
  obtain ⟨c0, c1, c2, c3⟩ := this
  exact ⟨c0, c1, c2, c3⟩
set_option maxHeartbeats 8000000 in
theorem play_k (W : World) (b g : Nat) (most : Int) (A : Ol) (l : Option Addr) (n c : Nat) (ll : List Oc) (w : World) (h : Pl W b g most A w) (hl : OcsAt W l n c ll) (hs : ∀ j, j < ll.length → (ocA ll j).id.size ≤ 100) (hn : n ≤ 1000) :
    Calls Try.prog 21 #[.pointer (some ⟨b, 0, none⟩), .slice l n c] w fun e w' => e = .returned (.tuple #[]) ∧ Pl W b g most (plA most A ll) w' ∧ w.grownBy w' (some g) := by
  have HL := Lib.hid hl
  have HP0 := Lib.hid h
  have HS := Lib.hid hs
  obtain ⟨hl1, hl2, hl3, _, _⟩ := hl
  unfold maxLen at hl3
  clear h hs
  go_enter Try.func21, Try.ntmps21
  go_wp2_with fail
  go_loopw [4] (fun iv wr => ∃ (i : Nat) (B : Ol), i ≤ n ∧ iv = .int .i64 i ∧ Hid (plA most A (ll.take i) = B) ∧ Hid (Pl W b g most B wr) ∧ Hid (w.grownBy wr (some g))) (fun iv _ => n - (intOf iv).toNat)
  case atStart => exact ⟨0, A, Nat.zero_le _, rfl, Lib.hid rfl, HP0, Lib.hid (grown_refl _ _)⟩
  case round =>
    obtain ⟨i, B, hi, rfl, HB, HP, HG⟩ := hrel
    by_cases hlt : i < n
    · have di : (i : Int) < (n : Int) := by omega
      obtain ⟨lb, lo, hla, _⟩ := HL.out.2.2.2.1 (by omega)
      subst hla
      have HN := Lib.hid (plA_next (most := most) (A := A) (by rw [hl1]; exact hlt) HB.out)
      have HZ := Lib.hid (HS.out i (by rw [hl1]; exact hlt))
      obtain ⟨⟨q, u, x, m⟩, hc⟩ : ∃ o, ocA ll i = o := ⟨_, rfl⟩
      have HCs := Lib.hid (fun V (hV : Below W.heap.size W V) => HL.out.cells hlt hc hV)
      rw [hc] at HN HZ
      dsimp only at HZ
      have hu : u.size ≤ 1000000000 := Nat.le_trans HZ.out (by decide)
      clear hc
      obtain ⟨c0, c1, c2, c3⟩ := HCs.out _ HP.out.low
      by_cases q0 : q = 0
      · subst q0
        obtain ⟨⟨r, B1⟩, hr⟩ : ∃ y, useP most B u (limI x) (limI m) = y := ⟨_, rfl⟩
        have HR := Lib.hid hr
        have HN1 := Lib.hid (HN.out.trans (show plS most B ⟨0, u, x, m⟩ = B1 by unfold plS; rw [if_pos rfl, hr]))
        clear hr
        go_wp2_with fail
        clear c0 c1 c2 c3
        have HP := Lib.hid (HP.out.step (Below.refl _ _).drew)
        have HG := Lib.hid (grown_trans HG.out (grown_below (Below.refl _ _).drew _))
        have S0 := HCs.out _ HP.out.low
        refine wp_region_held_drew (S := fun V => V.cell? ⟨lb, lo + i * 4, none⟩ = some (.int .i64 0) ∧ V.cell? ⟨lb, lo + i * 4 + 1, none⟩ = some (.string u) ∧ V.cell? ⟨lb, lo + i * 4 + 2, none⟩ = some (.int .i64 x) ∧ V.cell? ⟨lb, lo + i * 4 + 3, none⟩ = some (.int .i64 m)) (by kernel_rfl) (S0) (fun hS => ?_)
        refine wpAnyH_take (i := 0) (oi := { dst := some 18, op := _, type := _, pos := _, after := _, guard := _ }) (v := ?_) rfl (by kernel_rfl) (by kernel_rfl) (by kernel_rfl) (fun _ _ _ h => h) (Or.inl ⟨by rfl, ?_⟩) (by assumption) ?_
        rotate_left
        · intro w hSw
          try dsimp only at hSw
          go_simp
          try with_reducible rfl
        try simp only [Act.put, List.setIfInBounds_toArray, List.set_cons_zero, List.set_cons_succ]
        refine wpAnyH_take (i := 1) (oi := { dst := some 19, op := _, type := _, pos := _, after := _, guard := _ }) (v := ?_) rfl (by kernel_rfl) (by kernel_rfl) (by kernel_rfl) (fun _ _ _ h => h) (Or.inl ⟨by rfl, ?_⟩) (by assumption) ?_
        rotate_left
        · intro w hSw
          try dsimp only at hSw
          go_simp
          try with_reducible rfl
        try simp only [Act.put, List.setIfInBounds_toArray, List.set_cons_zero, List.set_cons_succ]
        refine wpAnyH_take (i := 2) (oi := { dst := some 20, op := _, type := _, pos := _, after := _, guard := _ }) (v := ?_) rfl (by kernel_rfl) (by kernel_rfl) (by kernel_rfl) (fun _ _ _ h => h) (Or.inl ⟨by rfl, ?_⟩) (by assumption) ?_
        rotate_left
        · intro w hSw
          try dsimp only at hSw
          go_simp
          try with_reducible rfl
        try simp only [Act.put, List.setIfInBounds_toArray, List.set_cons_zero, List.set_cons_succ]
        refine wpAnyH_take (i := 3) (oi := { dst := some 21, op := _, type := _, pos := _, after := _, guard := _ }) (v := ?_) rfl (by kernel_rfl) (by kernel_rfl) (by kernel_rfl) (fun _ _ _ h => h) (Or.inl ⟨by rfl, ?_⟩) (by assumption) ?_
        rotate_left
        · intro w hSw
          try dsimp only at hSw
          go_simp
          try with_reducible rfl
        try simp only [Act.put, List.setIfInBounds_toArray, List.set_cons_zero, List.set_cons_succ]
        refine wpAnyH_take (i := 4) (oi := { dst := some 22, op := _, type := _, pos := _, after := _, guard := _ }) (v := ?_) rfl (by kernel_rfl) (by kernel_rfl) (by kernel_rfl) (fun _ _ _ h => h) (Or.inl ⟨by rfl, ?_⟩) (by assumption) ?_
        rotate_left
        · intro w hSw
          try dsimp only at hSw
          go_simp
          try with_reducible rfl
        try simp only [Act.put, List.setIfInBounds_toArray, List.set_cons_zero, List.set_cons_succ]
        refine wpAnyH_take (i := 5) (oi := { dst := some 23, op := _, type := _, pos := _, after := _, guard := _ }) (v := ?_) rfl (by kernel_rfl) (by kernel_rfl) (by kernel_rfl) (fun _ _ _ h => h) (Or.inl ⟨by rfl, ?_⟩) (by assumption) ?_
        rotate_left
        · intro w hSw
          try dsimp only at hSw
          go_simp
          try with_reducible rfl
        try simp only [Act.put, List.setIfInBounds_toArray, List.set_cons_zero, List.set_cons_succ]
        refine wpAnyH_take (i := 6) (oi := { dst := some 24, op := _, type := _, pos := _, after := _, guard := _ }) (v := ?_) rfl (by kernel_rfl) (by kernel_rfl) (by kernel_rfl) (fun _ _ _ h => h) (Or.inl ⟨by rfl, ?_⟩) (by assumption) ?_
        rotate_left
        · intro w hSw
          try dsimp only at hSw
          go_simp
          try with_reducible rfl
        try simp only [Act.put, List.setIfInBounds_toArray, List.set_cons_zero, List.set_cons_succ]
        refine wpAnyH_take (i := 7) (oi := { dst := some 25, op := _, type := _, pos := _, after := _, guard := _ }) (v := ?_) rfl (by kernel_rfl) (by kernel_rfl) (by kernel_rfl) (fun _ _ _ h => h) (Or.inl ⟨by rfl, ?_⟩) (by assumption) ?_
        rotate_left
        · intro w hSw
          try dsimp only at hSw
          go_simp
          try with_reducible rfl
        try simp only [Act.put, List.setIfInBounds_toArray, List.set_cons_zero, List.set_cons_succ]
        refine wpAnyH_take (i := 8) (oi := { dst := some 26, op := _, type := _, pos := _, after := _, guard := _ }) (v := ?_) rfl (by kernel_rfl) (by kernel_rfl) (by kernel_rfl) (fun _ _ _ h => h) (Or.inl ⟨by rfl, ?_⟩) (by assumption) ?_
        rotate_left
        · intro w hSw
          try dsimp only at hSw
          go_simp
          try with_reducible rfl
        try simp only [Act.put, List.setIfInBounds_toArray, List.set_cons_zero, List.set_cons_succ]
        refine wpAnyH_take (i := 9) (oi := { dst := some 27, op := _, type := _, pos := _, after := _, guard := _ }) (v := ?_) rfl (by kernel_rfl) (by kernel_rfl) (by kernel_rfl) (fun _ _ _ h => h) (Or.inl ⟨by rfl, ?_⟩) (by assumption) ?_
        rotate_left
        · intro w hSw
          try dsimp only at hSw
          go_simp
          try with_reducible rfl
        try simp only [Act.put, List.setIfInBounds_toArray, List.set_cons_zero, List.set_cons_succ]
        refine wpAnyH_take (i := 10) (oi := { dst := some 28, op := _, type := _, pos := _, after := _, guard := _ }) (v := ?_) rfl (by kernel_rfl) (by kernel_rfl) (by kernel_rfl) (fun _ _ _ h => h) (Or.inl ⟨by rfl, ?_⟩) (by assumption) ?_
        rotate_left
        · intro w hSw
          try dsimp only at hSw
          go_simp
          try with_reducible rfl
        try simp only [Act.put, List.setIfInBounds_toArray, List.set_cons_zero, List.set_cons_succ]
        refine wpAnyH_take (i := 11) (oi := { dst := some 29, op := _, type := _, pos := _, after := _, guard := _ }) (v := ?_) rfl (by kernel_rfl) (by kernel_rfl) (by kernel_rfl) (fun _ _ _ h => h) (Or.inl ⟨by rfl, ?_⟩) (by assumption) ?_
        rotate_left
        · intro w hSw
          try dsimp only at hSw
          go_simp
          try with_reducible rfl
        try simp only [Act.put, List.setIfInBounds_toArray, List.set_cons_zero, List.set_cons_succ]
        refine wpAnyH_take (i := 12) (oi := { dst := some 30, op := _, type := _, pos := _, after := _, guard := _ }) (v := ?_) rfl (by kernel_rfl) (by kernel_rfl) (by kernel_rfl) (fun _ _ _ h => h) (Or.inl ⟨by rfl, ?_⟩) (by assumption) ?_
        rotate_left
        · intro w hSw
          try dsimp only at hSw
          go_simp
          try with_reducible rfl
        try simp only [Act.put, List.setIfInBounds_toArray, List.set_cons_zero, List.set_cons_succ]
        refine wpAnyH_take (i := 13) (oi := { dst := some 31, op := _, type := _, pos := _, after := _, guard := _ }) (v := ?_) rfl (by kernel_rfl) (by kernel_rfl) (by kernel_rfl) (fun _ _ _ h => h) (Or.inl ⟨by rfl, ?_⟩) (by assumption) ?_
        rotate_left
        · intro w hSw
          try dsimp only at hSw
          go_simp
          try with_reducible rfl
        try simp only [Act.put, List.setIfInBounds_toArray, List.set_cons_zero, List.set_cons_succ]
        refine wpAnyH_take (i := 14) (oi := { dst := some 32, op := _, type := _, pos := _, after := _, guard := _ }) (v := ?_) rfl (by kernel_rfl) (by kernel_rfl) (by kernel_rfl) (fun _ _ _ h => h) (Or.inl ⟨by rfl, ?_⟩) (by assumption) ?_
        rotate_left
        · intro w hSw
          try dsimp only at hSw
          go_simp
          try with_reducible rfl
        try simp only [Act.put, List.setIfInBounds_toArray, List.set_cons_zero, List.set_cons_succ]
        refine wpAnyH_take (i := 15) (oi := { dst := some 33, op := _, type := _, pos := _, after := _, guard := _ }) (v := ?_) rfl (by kernel_rfl) (by kernel_rfl) (by kernel_rfl) (fun _ _ _ h => h) (Or.inl ⟨by rfl, ?_⟩) (by assumption) ?_
        rotate_left
        · intro w hSw
          try dsimp only at hSw
          go_simp
          try with_reducible rfl
        try simp only [Act.put, List.setIfInBounds_toArray, List.set_cons_zero, List.set_cons_succ]
        refine wpAnyH_ready (rs := [16]) (by kernel_rfl) (by simp) ?_
        refine AllReadyH.cons rfl (fun K hK => ?_) AllReadyH.nil
        go_simp
        refine (puse W b g most B B1 u x m r _ HP.out hu HR.out).mono ?_
        rintro e v1 ⟨rfl, hp, hg⟩
        have HP := Lib.hid hp
        have HG := Lib.hid (grown_trans HG.out hg)
        clear hp hg
        go_wp2_with fail
        refine hK.out _ _ ?_ (fun hHeld => ?_)
        · exact HCs.out _ HP.out.low
        clear hK K
        try simp only [Act.put, List.setIfInBounds_toArray, List.set_cons_zero, List.set_cons_succ]
        refine wpAnyH_done (by kernel_rfl) ?_ _
        go_wp2_with fail
        go_roundw
        case rel => exact ⟨i + 1, B1, by omega, by go_num, HN1, HP, HG⟩
        case measure => simp [intOf]; omega
      · have e0 : (q == 0) = false := beq_eq_false_iff_ne.2 q0
        by_cases q1 : q = 1
        · subst q1
          have HN1 := Lib.hid (HN.out.trans (show plS most B ⟨1, u, x, m⟩ = B by unfold plS; rw [if_neg (by simp), if_neg (by simp)]))
          obtain ⟨z, hz⟩ : ∃ z, decide (limI m < atA B u) = z := ⟨_, rfl⟩
          have HZ2 := Lib.hid hz
          clear hz
          go_wp2_with fail
          clear c0 c1 c2 c3
          have HP := Lib.hid (HP.out.step (Below.refl _ _).drew)
          have HG := Lib.hid (grown_trans HG.out (grown_below (Below.refl _ _).drew _))
          have S0 := HCs.out _ HP.out.low
          refine wp_region_held_drew (S := fun V => V.cell? ⟨lb, lo + i * 4, none⟩ = some (.int .i64 1) ∧ V.cell? ⟨lb, lo + i * 4 + 1, none⟩ = some (.string u) ∧ V.cell? ⟨lb, lo + i * 4 + 2, none⟩ = some (.int .i64 x) ∧ V.cell? ⟨lb, lo + i * 4 + 3, none⟩ = some (.int .i64 m)) (by kernel_rfl) (S0) (fun hS => ?_)
          refine wpAnyH_take (i := 0) (oi := { dst := some 37, op := _, type := _, pos := _, after := _, guard := _ }) (v := ?_) rfl (by kernel_rfl) (by kernel_rfl) (by kernel_rfl) (fun _ _ _ h => h) (Or.inl ⟨by rfl, ?_⟩) (by assumption) ?_
          rotate_left
          · intro w hSw
            try dsimp only at hSw
            go_simp
            try with_reducible rfl
          try simp only [Act.put, List.setIfInBounds_toArray, List.set_cons_zero, List.set_cons_succ]
          refine wpAnyH_take (i := 1) (oi := { dst := some 38, op := _, type := _, pos := _, after := _, guard := _ }) (v := ?_) rfl (by kernel_rfl) (by kernel_rfl) (by kernel_rfl) (fun _ _ _ h => h) (Or.inl ⟨by rfl, ?_⟩) (by assumption) ?_
          rotate_left
          · intro w hSw
            try dsimp only at hSw
            go_simp
            try with_reducible rfl
          try simp only [Act.put, List.setIfInBounds_toArray, List.set_cons_zero, List.set_cons_succ]
          refine wpAnyH_take (i := 2) (oi := { dst := some 39, op := _, type := _, pos := _, after := _, guard := _ }) (v := ?_) rfl (by kernel_rfl) (by kernel_rfl) (by kernel_rfl) (fun _ _ _ h => h) (Or.inl ⟨by rfl, ?_⟩) (by assumption) ?_
          rotate_left
          · intro w hSw
            try dsimp only at hSw
            go_simp
            try with_reducible rfl
          try simp only [Act.put, List.setIfInBounds_toArray, List.set_cons_zero, List.set_cons_succ]
          refine wpAnyH_take (i := 3) (oi := { dst := some 40, op := _, type := _, pos := _, after := _, guard := _ }) (v := ?_) rfl (by kernel_rfl) (by kernel_rfl) (by kernel_rfl) (fun _ _ _ h => h) (Or.inl ⟨by rfl, ?_⟩) (by assumption) ?_
          rotate_left
          · intro w hSw
            try dsimp only at hSw
            go_simp
            try with_reducible rfl
          try simp only [Act.put, List.setIfInBounds_toArray, List.set_cons_zero, List.set_cons_succ]
          refine wpAnyH_take (i := 4) (oi := { dst := some 41, op := _, type := _, pos := _, after := _, guard := _ }) (v := ?_) rfl (by kernel_rfl) (by kernel_rfl) (by kernel_rfl) (fun _ _ _ h => h) (Or.inl ⟨by rfl, ?_⟩) (by assumption) ?_
          rotate_left
          · intro w hSw
            try dsimp only at hSw
            go_simp
            try with_reducible rfl
          try simp only [Act.put, List.setIfInBounds_toArray, List.set_cons_zero, List.set_cons_succ]
          refine wpAnyH_take (i := 5) (oi := { dst := some 42, op := _, type := _, pos := _, after := _, guard := _ }) (v := ?_) rfl (by kernel_rfl) (by kernel_rfl) (by kernel_rfl) (fun _ _ _ h => h) (Or.inl ⟨by rfl, ?_⟩) (by assumption) ?_
          rotate_left
          · intro w hSw
            try dsimp only at hSw
            go_simp
            try with_reducible rfl
          try simp only [Act.put, List.setIfInBounds_toArray, List.set_cons_zero, List.set_cons_succ]
          refine wpAnyH_take (i := 6) (oi := { dst := some 43, op := _, type := _, pos := _, after := _, guard := _ }) (v := ?_) rfl (by kernel_rfl) (by kernel_rfl) (by kernel_rfl) (fun _ _ _ h => h) (Or.inl ⟨by rfl, ?_⟩) (by assumption) ?_
          rotate_left
          · intro w hSw
            try dsimp only at hSw
            go_simp
            try with_reducible rfl
          try simp only [Act.put, List.setIfInBounds_toArray, List.set_cons_zero, List.set_cons_succ]
          refine wpAnyH_take (i := 7) (oi := { dst := some 44, op := _, type := _, pos := _, after := _, guard := _ }) (v := ?_) rfl (by kernel_rfl) (by kernel_rfl) (by kernel_rfl) (fun _ _ _ h => h) (Or.inl ⟨by rfl, ?_⟩) (by assumption) ?_
          rotate_left
          · intro w hSw
            try dsimp only at hSw
            go_simp
            try with_reducible rfl
          try simp only [Act.put, List.setIfInBounds_toArray, List.set_cons_zero, List.set_cons_succ]
          refine wpAnyH_take (i := 8) (oi := { dst := some 45, op := _, type := _, pos := _, after := _, guard := _ }) (v := ?_) rfl (by kernel_rfl) (by kernel_rfl) (by kernel_rfl) (fun _ _ _ h => h) (Or.inl ⟨by rfl, ?_⟩) (by assumption) ?_
          rotate_left
          · intro w hSw
            try dsimp only at hSw
            go_simp
            try with_reducible rfl
          try simp only [Act.put, List.setIfInBounds_toArray, List.set_cons_zero, List.set_cons_succ]
          refine wpAnyH_take (i := 9) (oi := { dst := some 46, op := _, type := _, pos := _, after := _, guard := _ }) (v := ?_) rfl (by kernel_rfl) (by kernel_rfl) (by kernel_rfl) (fun _ _ _ h => h) (Or.inl ⟨by rfl, ?_⟩) (by assumption) ?_
          rotate_left
          · intro w hSw
            try dsimp only at hSw
            go_simp
            try with_reducible rfl
          try simp only [Act.put, List.setIfInBounds_toArray, List.set_cons_zero, List.set_cons_succ]
          refine wpAnyH_take (i := 10) (oi := { dst := some 47, op := _, type := _, pos := _, after := _, guard := _ }) (v := ?_) rfl (by kernel_rfl) (by kernel_rfl) (by kernel_rfl) (fun _ _ _ h => h) (Or.inl ⟨by rfl, ?_⟩) (by assumption) ?_
          rotate_left
          · intro w hSw
            try dsimp only at hSw
            go_simp
            try with_reducible rfl
          try simp only [Act.put, List.setIfInBounds_toArray, List.set_cons_zero, List.set_cons_succ]
          refine wpAnyH_ready (rs := [11]) (by kernel_rfl) (by simp) ?_
          refine AllReadyH.cons rfl (fun K hK => ?_) AllReadyH.nil
          go_simp
          refine (pseen W b g most B u m z _ HP.out hu HZ2.out).mono ?_
          rintro e v1 ⟨rfl, hp, hb⟩
          have HP := Lib.hid hp
          have HG := Lib.hid (grown_trans HG.out (grown_below hb _))
          clear hp hb
          go_wp2_with fail
          refine hK.out _ _ ?_ (fun hHeld => ?_)
          · exact HCs.out _ HP.out.low
          clear hK K
          try simp only [Act.put, List.setIfInBounds_toArray, List.set_cons_zero, List.set_cons_succ]
          refine wpAnyH_done (by kernel_rfl) ?_ _
          go_wp2_with fail
          go_roundw
          case rel => exact ⟨i + 1, B, by omega, by go_num, HN1, HP, HG⟩
          case measure => simp [intOf]; omega
        · have e1 : (q == 1) = false := beq_eq_false_iff_ne.2 q1
          by_cases q2 : q = 2
          · subst q2
            obtain ⟨B1, hB1⟩ : ∃ B1, purA B (limI m) = B1 := ⟨_, rfl⟩
            have HB1 := Lib.hid hB1
            have HN1 := Lib.hid (HN.out.trans (show plS most B ⟨2, u, x, m⟩ = B1 by unfold plS; rw [if_neg (by simp), if_pos rfl]; exact hB1))
            clear hB1
            go_wp2_with fail
            refine (ppurge W b g most B B1 m _ _ HP.out HB1.out rfl).mono ?_
            rintro e v1 ⟨rfl, hp, hg⟩
            have HP := Lib.hid hp
            have HG := Lib.hid (grown_trans HG.out hg)
            clear hp hg
            go_wp2_with fail
            go_roundw
            case rel => exact ⟨i + 1, B1, by omega, by go_num, HN1, HP, HG⟩
            case measure => simp [intOf]; omega
          · have e2 : (q == 2) = false := beq_eq_false_iff_ne.2 q2
            have HN1 := Lib.hid (HN.out.trans (show plS most B ⟨q, u, x, m⟩ = B by unfold plS; rw [if_neg q0, if_neg q2]))
            go_wp2_with fail
            go_roundw
            case rel => exact ⟨i + 1, B, by omega, by go_num, HN1, HP, HG⟩
            case measure => simp [intOf]; omega
    · obtain rfl : n = i := by omega
      have HE := Lib.hid (show B = plA most A ll by rw [← HB.out, ← hl1, List.take_length])
      go_wp2_with fail
      go_end0
      exact ⟨rfl, by rw [← HE.out]; exact HP.out, HG.out⟩
end Go.Proofs.Yteoaekjhicphlaa
