/-
  Texts of the schema layer and of those beneath it, joined: SchNvR, SchLnR, SchLow, SchLkR, SchMuR. Conditions stand at each contract.
-/
import Derived.Deep.Onto
import Derived.Test.YtmmdaegdkikkpaaGreatDoorQ18
set_option linter.unusedVariables false
set_option linter.unusedSimpArgs false
set_option linter.unnecessarySimpa false

section
set_option maxRecDepth 100000
namespace Go.Proofs.YtmmdaegdkikkpaaGreatDoor
open Go.RowKit Go.PlainAid
theorem numS_getD (s : ByteArray) : -9223372036854775808 ≤ (numS s).getD 0 ∧ (numS s).getD 0 ≤ 9223372036854775807 := by
 cases h : numS s with
 | none => exact ⟨by decide, by decide⟩
 | some n => exact numS_range h
set_option maxHeartbeats 8000000 in
theorem rform_s (x : Int) (s : ByteArray) (w : World) (hs : s.size ≤ 1100000) :
  Calls Tryz.prog 215 #[.int .i64 x, .string s] w fun e w' => ∃ f : ByteArray, e = .returned (.tuple #[.string f, .bool (formS x s).isSome]) ∧ (∀ g, formS x s = some g → f = g) ∧ Below w.heap.size w w' := by
 by_cases h1 : x = 1
 ·subst h1
  have HE := Lib.hid (show formS 1 s = some (foldS s) from rfl)
  go_enter Tryz.func215, Tryz.ntmps215
  go_wp2_with fail
  refine (rFold_s s _ (by omega)).mono ?_
  rintro e w1 ⟨rfl, hb⟩
  have HB := Lib.hid hb; clear hb
  go_wp2_with fail
  go_ret2
  exact ⟨_, by rw [HE.out]; rfl, (fun g hg => by rw [HE.out] at hg; exact Option.some.inj hg), HB.out⟩
 ·by_cases h2 : x = 2
  ·subst h2
   have HE := Lib.hid (show formS 2 s = some s from rfl)
   go_enter Tryz.func215, Tryz.ntmps215
   go_wp2_with fail
   go_ret2
   exact ⟨_, by rw [HE.out]; rfl, (fun g hg => by rw [HE.out] at hg; exact Option.some.inj hg), Below.refl _ _⟩
  ·by_cases h3 : x = 3
   ·subst h3
    have HE := Lib.hid (show formS 3 s = (numS s).map fun n => ofL (Lib.itoa n) from rfl)
    obtain ⟨hn1, hn2⟩ := numS_getD s
    have HI := Lib.hid (fun W => rint_s ((numS s).getD 0) W hn1 hn2)
    obtain ⟨n, hn⟩ : ∃ x, (numS s).getD 0 = x := ⟨_, rfl⟩
    obtain ⟨ok, hok⟩ : ∃ x, (numS s).isSome = x := ⟨_, rfl⟩
    have HN := Lib.hid (rnumber_s s w hs)
    rw [hn, hok] at HN
    rw [hn] at HI
    have HQ := Lib.hid (And.intro hn hok)
    clear hn hok hn1 hn2
    go_enter Tryz.func215, Tryz.ntmps215
    go_wp2_with fail
    refine HN.out.mono ?_
    rintro e w1 ⟨rfl, rfl⟩
    go_wp2_with fail
    refine (HI.out _).mono ?_
    rintro e w2 ⟨rfl, hb⟩
    have HB := Lib.hid hb; clear hb
    go_wp2_with fail
    go_ret2
    refine ⟨_, by rw [HE.out, Option.isSome_map, HQ.out.2]; rfl, (fun g hg => ?_), HB.out⟩
    rw [HE.out] at hg
    rw [← HQ.out.1]
    cases e : numS s with
    | none => rw [e] at hg; cases hg
    | some m => rw [e] at hg; exact Option.some.inj hg
   ·by_cases h4 : x = 4
    ·subst h4
     have HE := Lib.hid (show formS 4 s = if Nam.cleanE s = 0 then some (Nam.cleanV s) else none from rfl)
     go_enter Tryz.func215, Tryz.ntmps215
     go_wp2_with fail
     refine (Nam.rclean0_s s _ hs).mono ?_
     rintro e w1 ⟨rfl, hb⟩
     have HB := Lib.hid hb; clear hb
     by_cases hc : Nam.cleanE s = 0
     ·have HE2 := Lib.hid (show formS 4 s = some (Nam.cleanV s) from HE.out.trans (if_pos hc))
      rw [hc]
      go_wp2_with fail
      go_ret2
      exact ⟨_, by rw [HE2.out]; rfl, (fun g hg => by rw [HE2.out] at hg; exact Option.some.inj hg), HB.out⟩
     ·have HE2 := Lib.hid (show formS 4 s = none from HE.out.trans (if_neg hc))
      obtain ⟨ec, hec⟩ : ∃ e, Nam.cleanE s = e := ⟨_, rfl⟩
      rw [hec] at hc ⊢
      clear hec
      have hq : (ec == 0) = false := beq_false_of_ne hc
      go_wp2_with fail
      go_ret2
      exact ⟨_, by rw [HE2.out]; rfl, (fun g hg => by rw [HE2.out] at hg; cases hg), HB.out⟩
    ·have HE := Lib.hid (show formS x s = truthS s by unfold formS; rw [if_neg h1, if_neg h2, if_neg h3, if_neg h4])
     have q1 : (x == 1) = false := beq_false_of_ne h1
     have q2 : (x == 2) = false := beq_false_of_ne h2
     have q3 : (x == 3) = false := beq_false_of_ne h3
     have q4 : (x == 4) = false := beq_false_of_ne h4
     obtain ⟨lw, hlw⟩ : ∃ x, lowS s = x := ⟨_, rfl⟩
     have HL := Lib.hid (fun W => rLower_s s W (by omega))
     rw [hlw] at HL
     have HE2 := Lib.hid (show formS x s = if lw = trueS then some ⟨#[84, 82, 85, 69]⟩ else if lw = falseS then some ⟨#[70, 65, 76, 83, 69]⟩ else none by rw [HE.out]; unfold truthS; rw [hlw])
     clear HE hlw
     go_enter Tryz.func215, Tryz.ntmps215
     go_wp2_with fail
     refine (HL.out _).mono ?_
     rintro e w1 ⟨rfl, hb⟩
     have HB := Lib.hid hb; clear hb
     by_cases ht : lw = trueS
     ·have HE3 := Lib.hid (show formS x s = some ⟨#[84, 82, 85, 69]⟩ by rw [HE2.out, if_pos ht])
      have t1 : (lw.toList == [116, 114, 117, 101]) = true := by rw [ht, Lib.toList_data]; rfl
      clear ht
      go_wp2_with fail
      go_ret2
      exact ⟨_, by rw [HE3.out]; rfl, (fun g hg => by rw [HE3.out] at hg; exact Option.some.inj hg), HB.out⟩
     ·have t1 : (lw.toList == [116, 114, 117, 101]) = false := by
       rw [Lib.toList_data]
       exact beq_false_of_ne (fun k => ht (by rw [← Lib.mk_data lw, k]; rfl))
      go_wp2_with fail
      refine (HL.out _).mono ?_
      rintro e w2 ⟨rfl, hb⟩
      have HB2 := Lib.hid (HB.out.trans (hb.mono HB.out.size)); clear hb
      by_cases hf : lw = falseS
      ·have HE3 := Lib.hid (show formS x s = some ⟨#[70, 65, 76, 83, 69]⟩ by rw [HE2.out, if_neg ht, if_pos hf])
       have t2 : (lw.toList == [102, 97, 108, 115, 101]) = true := by rw [hf, Lib.toList_data]; rfl
       clear hf ht
       go_wp2_with fail
       go_ret2
       exact ⟨_, by rw [HE3.out]; rfl, (fun g hg => by rw [HE3.out] at hg; exact Option.some.inj hg), HB2.out⟩
      ·have HE3 := Lib.hid (show formS x s = none by rw [HE2.out, if_neg ht, if_neg hf])
       have t2 : (lw.toList == [102, 97, 108, 115, 101]) = false := by
        rw [Lib.toList_data]
        exact beq_false_of_ne (fun k => hf (by rw [← Lib.mk_data lw, k]; rfl))
       go_wp2_with fail
       go_ret2
       exact ⟨_, by rw [HE3.out]; rfl, (fun g hg => by rw [HE3.out] at hg; cases hg), HB2.out⟩
set_option maxHeartbeats 8000000 in
theorem rnormal7_s (v : Value) (ts : List Ty) (cs : List Cl) (n s : ByteArray) (w : World) (h : SchV w v ts cs) (hn : n.size ≤ 1000000000) (hs : s.size ≤ 1100000) :
  Calls Tryz.prog 137 #[v, .string n, .string s] w fun e w' => e = .returned (.tuple #[.string (nrmV (soundT ts cs) n s), .int .i64 (nrmE (soundT ts cs) n s)]) ∧ Below w.heap.size w w' := by
 have h' := h
 obtain ⟨ao, k, cap, bo, m, dap, rfl, _⟩ := h'
 have hb0 : Below w.heap.size w (w.alloc (.cells #[.slice ao k cap, .slice bo m dap] 25)) := (Below.refl _ _).alloc (Nat.le_refl _) _
 have HB0 := Lib.hid hb0
 have HC := Lib.hid (type7_s _ ts cs n _ (h.below hb0) hn)
 clear h hb0
 go_enter Tryz.func137, Tryz.ntmps137
 go_wp2_with fail
 refine HC.out.mono ?_
 rintro e w1 ⟨rfl, hb⟩
 have hsz1 : w.heap.size < w1.heap.size := by have := hb.size; simp at this; omega
 have HB1 := Lib.hid (HB0.out.trans (hb.mono (by simp)))
 clear hb HC HB0
 unfold tyV
 cases ht : tyOf (soundT ts cs) n with
 | none =>
  have HE := Lib.hid (show nrmV (soundT ts cs) n s = ⟨#[]⟩ ∧ nrmE (soundT ts cs) n s = 6 by unfold nrmV nrmE; rw [ht]; exact ⟨rfl, rfl⟩)
  clear ht
  dsimp only [Option.getD, Option.isSome, zeroTy]
  go_wp2_with fail
  go_ret2
  exact ⟨by rw [HE.out.1, HE.out.2]; rfl, HB1.out.alloc (by omega) _⟩
 | some t =>
  have HE := Lib.hid (show nrmV (soundT ts cs) n s = (normS t.syn s).getD ⟨#[]⟩ ∧ nrmE (soundT ts cs) n s = normE t.syn s by unfold nrmV nrmE; rw [ht]; exact ⟨rfl, rfl⟩)
  clear ht
  dsimp only [Option.getD, Option.isSome]
  have hal := (Below.refl w1.heap.size w1).alloc (Nat.le_refl _) (.cells #[.string t.name, .int .i64 t.syn, .bool t.single] 62)
  have k0 : (w1.alloc (.cells #[.string t.name, .int .i64 t.syn, .bool t.single] 62)).cell? ⟨w1.heap.size, 1, none⟩ = some (.int .i64 t.syn) := by go_simp
  have HAL := Lib.hid (HB1.out.trans (hal.mono (Nat.le_of_lt hsz1)))
  have HN := Lib.hid (show normS t.syn s = (formS t.syn s).bind fun f => if cleanB s = true ∧ cleanB f = true then some f else none from rfl)
  have HFm := Lib.hid (fun f (h : formS t.syn s = some f) => formS_small hs h)
  obtain ⟨c1, hc1⟩ : ∃ b, cleanB s = b := ⟨_, rfl⟩
  have HC1 := Lib.hid hc1
  clear hal hc1
  go_wp2_with fail
  refine (rClean_s s _ (by omega)).mono ?_
  rintro e w2 ⟨rfl, rfl⟩
  rw [HC1.out]
  cases c1
  ·have HE2 := Lib.hid (show normS t.syn s = none by rw [HN.out, HC1.out]; cases formS t.syn s <;> simp)
   go_wp2_with fail
   go_ret2
   exact ⟨by rw [HE.out.1, HE.out.2]; unfold normE; rw [HE2.out]; rfl, HAL.out⟩
  ·go_wp2_with fail
   refine (rform_s t.syn s _ hs).mono ?_
   rintro e w2 ⟨f, rfl, hg, hb⟩
   have HB2 := Lib.hid (HAL.out.trans (hb.mono HAL.out.size)); clear hb k0
   cases hq : formS t.syn s with
   | none =>
    have HE2 := Lib.hid (show normS t.syn s = none by rw [HN.out, hq]; rfl)
    clear hg hq
    go_wp2_with fail
    go_ret2
    exact ⟨by rw [HE.out.1, HE.out.2]; unfold normE; rw [HE2.out]; rfl, HB2.out⟩
   | some g =>
    obtain rfl := hg g hq
    have hfs := HFm.out f hq
    obtain ⟨c2, hc2⟩ : ∃ b, cleanB f = b := ⟨_, rfl⟩
    have HC2 := Lib.hid hc2
    have HE2 := Lib.hid (show normS t.syn s = if c2 = true then some f else none by rw [HN.out, hq]; show (if cleanB s = true ∧ cleanB f = true then some f else none) = _; rw [HC1.out, hc2]; simp)
    clear hc2 hg hq
    go_wp2_with fail
    refine (rClean_s f _ (by omega)).mono ?_
    rintro e w3 ⟨rfl, rfl⟩
    rw [HC2.out]
    cases c2
    ·have HE3 := Lib.hid (show normS t.syn s = none from HE2.out.trans (by simp))
     go_wp2_with fail
     go_ret2
     exact ⟨by rw [HE.out.1, HE.out.2]; unfold normE; rw [HE3.out]; rfl, HB2.out⟩
    ·have HE3 := Lib.hid (show normS t.syn s = some f from HE2.out.trans (by simp))
     go_wp2_with fail
     go_ret2
     exact ⟨by rw [HE.out.1, HE.out.2]; unfold normE; rw [HE3.out]; rfl, HB2.out⟩
def icells (l : List Nat) : List Value := l.map fun (k : Nat) => Value.int .i64 (k : Int)
theorem icells_snoc (l : List Nat) (k : Nat) : icells (l ++ [k]) = icells l ++ [.int .i64 (k : Int)] := by simp [icells]
theorem info_int : (Tryz.prog.info? 3).map (fun i => (i.zero, i.size, i.bytes)) = some (some (.int .i64 0), 1, 8) := by kernel_rfl
theorem push_int {ops : Array Oper} {rest : List Oper} {o : Oper} {a : Act} {Q : Exit → Act → World → Prop} (wr : World) {base : Nat} {v : Value} {n : Nat} {xs : List Value} (hown : wr.ownsRow base 3 1 v n xs) (s x : Operand)
  (p : Int) (hgd : o.guard = none)
  (ho : o.op = .call { callee := .builtin .append, args := #[s, x], argTypes := #[160, 160] })
  (hs : a.eval s = v) (hx : a.eval x = .slice (some ⟨wr.heap.size, 0, none⟩) 1 1) (hn : n + 1 ≤ 1000000000) (hbase : base ≤ wr.heap.size)
  (h : ∀ v' w', w'.ownsRow base 3 1 v' (n + 1) (xs ++ [.int .i64 p]) → Below base wr w' → wpList Tryz.prog ops Q rest (a.put o.dst v') w') :
  wpList Tryz.prog ops Q (o :: rest) a (wr.alloc (.cells #[.int .i64 p] 3)) := by
 obtain ⟨i0, hi, hz0, hz1, hz2⟩ := info_parts info_int
 refine wpList_append_own _ hgd s x 160 ho base 3 i0 (.int .i64 0) 1 8 Tryz.underlying160 hi hz0 hz1 hz2 rfl (by decide) v n xs hs (hown.alloc _) ⟨wr.heap.size, 0, none⟩ 1 1 [.int .i64 p] hx rfl
  (cell_one_new _ _ _) (by intro u hu; simp at hu; subst hu; rfl) (by unfold maxLen; omega) (by omega) (by simp; omega) ?_
 intro v' w' h1 h2 _
 refine h v' w' h1 ?_
 exact ((Below.refl base wr).alloc hbase _).grown h2 (by simp; omega) (fun k hk => (hown.lt k hk).1)
def IntsAt (w : World) (ao : Option Addr) (n cap : Nat) (ks : List Nat) : Prop :=
 ks.length = n ∧ n ≤ cap ∧ cap ≤ maxLen ∧ (0 < n → ∃ b off, ao = some ⟨b, off, none⟩ ∧ b < w.heap.size ∧ ∀ j, j < n → w.cell? ⟨b, off + j, none⟩ = some (.int .i64 ((ks.getD j 0 : Nat) : Int)))
theorem IntsAt.below {w w' : World} {ao : Option Addr} {n cap : Nat} {ks : List Nat} (h : IntsAt w ao n cap ks) (hb : Below w.heap.size w w') : IntsAt w' ao n cap ks :=
 ⟨h.1, h.2.1, h.2.2.1, fun hn => by
  obtain ⟨b, off, e, hi, hs⟩ := h.2.2.2 hn
  exact ⟨b, off, e, Nat.lt_of_lt_of_le hi hb.size, fun j hj => cell_later hb (hs j hj)⟩⟩
theorem ints_own {w : World} {base n : Nat} {ao : Option Addr} {cap : Nat} {l : List Nat} (h : w.ownsRow base 3 1 (.slice ao n cap) n (icells l)) (hn : l.length = n) : IntsAt w ao n cap l := by
 have h0 := h
 rcases h.2 with ⟨e, rfl⟩ | ⟨g, cap', cur, e, hb, hg, hc, hm, hcs, ht⟩
 ·simp only [Value.slice.injEq] at e
  obtain ⟨rfl, _, rfl⟩ := e
  exact ⟨hn, Nat.le_refl _, by unfold maxLen; omega, fun h => absurd h (Nat.lt_irrefl _)⟩
 ·simp only [Value.slice.injEq] at e
  obtain ⟨rfl, _, rfl⟩ := e
  refine ⟨hn, hc, hm, fun h1 => ⟨g, 0, rfl, ?_, fun j hj => ?_⟩⟩
  ·rcases Nat.lt_or_ge g w.heap.size with h' | h'
   ·exact h'
   ·simp [Array.getElem?_eq_none h'] at hg
  ·have := h0.cells (g := g) rfl j (.int .i64 ((l.getD j 0 : Nat) : Int)) (by
    unfold icells
    rw [List.getElem?_map, List.getD_eq_getElem?_getD, List.getElem?_eq_getElem (by omega)]; rfl)
   rw [Go.WideShapes.add_plain] at this
   exact this
structure LnR (w wr : World) (C : List Cl) (n : ByteArray) (v : Value) (ks : List Nat) (cur : ByteArray) (r : Int) : Prop where
 own : wr.ownsRow w.heap.size 3 1 v ks.length (icells ks)
 ix : ClIx C cur r
 all : lineS C n = ks.map (clAt C) ++ lineS C cur
 lt : ∀ k ∈ ks, k < C.length
 low : Below w.heap.size w wr
set_option maxHeartbeats 8000000 in
theorem lineage7_s (v : Value) (ts : List Ty) (cs : List Cl) (n : ByteArray) (w : World) (h : SchV w v ts cs) (hn : n.size ≤ 1000000000) :
  Calls Tryz.prog 141 #[v, .string n] w fun e w' => ∃ ao cap ks, e = .returned (.slice ao ks.length cap) ∧ IntsAt w' ao ks.length cap ks ∧ FreshA w.heap.size ao ∧ ks.map (clAt (soundC ts cs)) = lineS (soundC ts cs) n ∧ (∀ k ∈ ks, k < (soundC ts cs).length) ∧ ks.length ≤ 32 ∧ Below w.heap.size w w' := by
 have h' := h
 obtain ⟨ao, k, cap, bo, m, dap, rfl, _⟩ := h'
 have hb0 : Below w.heap.size w (w.alloc (.cells #[.slice ao k cap, .slice bo m dap] 25)) := (Below.refl _ _).alloc (Nat.le_refl _) _
 have HB0 := Lib.hid hb0
 have HC := Lib.hid (sound7_s _ ts cs _ (h.below hb0))
 have HS := Lib.hid (sound_soundC ts cs)
 have HL := Lib.hid (Nat.le_trans (lineS_small (sound_soundC ts cs) n) (soundC_len ts cs))
 obtain ⟨C, hC⟩ : ∃ x, soundC ts cs = x := ⟨_, rfl⟩
 rw [hC] at HC HS HL ⊢
 clear h hb0 hC
 go_enter Tryz.func141, Tryz.ntmps141
 go_wp2_with fail
 refine HC.out.mono ?_
 rintro e w1 ⟨u, rfl, ⟨ao', k', cap', co, cn, cc, rfl, _, hCl, _, hsC⟩, hb⟩
 have HB1 := Lib.hid (HB0.out.trans (hb.mono (by simp)))
 have HCl := Lib.hid hCl
 have HsC := Lib.hid hsC
 have hfd := field_classes ao' k' cap' co cn cc
 have HCt := Lib.hid (fun x W (hx : x.size ≤ 1000000000) (hb : Below w1.heap.size w1 W) => classAt_s co cn cc C x W (hCl.below hb) (fun t ht => (hsC t ht).1) hx)
 have hcl := hCl.1
 have HLen := Lib.hid hcl
 have hcx := hCl.2.2.1
 unfold maxLen at hcx
 clear hb hCl hsC HC HB0 hcl
 go_wp2_with fail
 refine (HCt.out n _ hn (Below.refl _ _)).mono ?_
 rintro e w2 ⟨r, rfl, hix, hb⟩
 have L0 : Hid (LnR w2 w2 C n (.slice none 0 0) [] n r) := Lib.hid ⟨World.ownsRow_nil _ _ _ _, hix, rfl, (fun k hk => by cases hk), Below.refl _ _⟩
 have HX2 := Lib.hid hb
 clear hb hix hfd
 go_wp2_with fail
 go_loopw [5, 7] (fun s5 s7 wr => ∃ (ks : List Nat) (ao : Option Addr) (cap : Nat) (cur : ByteArray) (r : Int), s5 = .slice ao ks.length cap ∧ s7 = .int .i64 r ∧ Hid (LnR w2 wr C n (.slice ao ks.length cap) ks cur r)) (fun s5 _ _ => 40 - lenOf s5)
 case atStart => exact ⟨[], none, 0, n, r, rfl, rfl, L0⟩
 case round =>
  clear L0
  obtain ⟨ks, ao, cap, cur, r, rfl, rfl, HLn⟩ := hrel
  rcases HLn.out.ix with ⟨q, rfl, hq, hcl⟩ | ⟨rfl, hcl⟩
  ·have d1 : (0 : Int) ≤ (q : Int) := by omega
   have hstep := lineS_step HS.out hcl
   have hlen : ks.length + 1 ≤ 32 := by
    have h1 := HL.out
    rw [HLn.out.all, hstep, List.length_append, List.length_map, List.length_cons] at h1
    omega
   have hall : lineS C n = (ks ++ [q]).map (clAt C) ++ lineS C (clAt C q).super := by
    rw [HLn.out.all, hstep, List.map_append, List.append_assoc]; rfl
   have hq2 : q < cn := by rw [← HLen.out]; exact hq
   have d2 : (q : Int) < (cn : Int) := by omega
   obtain ⟨b, off, rfl, hbl, hs⟩ := HCl.out.2.2.2 (by omega)
   obtain ⟨y0, y1, _, _⟩ := hs q hq2
   have hsu := (HsC.out _ (cl_mem C q hq)).2.1
   obtain ⟨su, hsu2⟩ : ∃ x, (clAt C q).super = x := ⟨_, rfl⟩
   rw [hsu2] at y1 hsu hall
   have HA := Lib.hid hall
   have HY := Lib.hid (cell_later HX2.out y1)
   have hown := HLn.out.own
   have hbig := HLn.out.low.size
   clear hs y0 y1 hall hstep hsu2 hcl
   go_wp2_with (at_builtin; go_must (refine push_int wr hown (.tmp 23) (.tmp 25) (q : Int) ?_ ?_ ?_ ?_ ?_ ?_ ?_; exact rfl; exact rfl; exact rfl; exact rfl; omega; exact hbig; intro v3 w3 hown3 hb3; obtain ⟨ao3, cap3, rfl⟩ := own_slc hown3; have HO3 := Lib.hid hown3; have HB3 := Lib.hid (HLn.out.low.trans hb3); have y3 := cell_later HB3.out HY.out; clear hown3 hb3))
   have HB13 := Lib.hid (HX2.out.trans (HB3.out.mono HX2.out.size))
   refine (HCt.out su _ hsu HB13.out).mono ?_
   rintro e w4 ⟨r', rfl, hix', hb⟩
   have L4 : Hid (LnR w2 w4 C n (.slice ao3 (ks.length + 1) cap3) (ks ++ [q]) su r') := Lib.hid ⟨by
    rw [List.length_append, icells_snoc]
    exact own_below HO3.out hb, hix', HA.out, (fun k hk => by
     rcases List.mem_append.1 hk with h | h
     ·exact HLn.out.lt k h
     ·rw [List.mem_singleton.1 h]; exact hq), HB3.out.trans (hb.mono HB3.out.size)⟩
   clear hb hix' y3
   go_wp2_with fail
   go_roundw
   case rel => exact ⟨ks ++ [q], ao3, cap3, su, r', by rw [List.length_append]; rfl, rfl, by rw [List.length_append]; exact L4⟩
   case measure => simp [lenOf]; omega
  ·have d1 : ¬ (0 : Int) ≤ (-1 : Int) := by decide
   have hall := HLn.out.all
   rw [lineS_none hcl, List.append_nil] at hall
   have HA := Lib.hid hall
   have hl := HL.out
   clear hall hcl
   go_wp2_with fail
   go_ret
   exact ⟨_, _, ks, rfl, ints_own HLn.out.own rfl, (fun b off e => by subst e; exact Nat.le_trans (Nat.le_trans HB1.out.size HX2.out.size) (HLn.out.own.lt b rfl).1), HA.out.symm, HLn.out.lt, by have := hl; rw [HA.out, List.length_map] at this; exact this, HB1.out.trans ((HX2.out.trans (HLn.out.low.mono HX2.out.size)).mono HB1.out.size)⟩
theorem ins_at {L : List ByteArray} {q : ByteArray} {m : Nat} (h : ∀ x ∈ L.take m, cmpS x q < 0) (hm : m ≤ L.length) (hn : m < L.length → ¬ cmpS (partAt L m) q < 0 ∧ partAt L m ≠ q) : insS L q = L.take m ++ [q] ++ L.drop m := by
 have h1 : insS (L.take m ++ L.drop m) q = L.take m ++ insS (L.drop m) q := insS_all (L.drop m) (L.take m) h
 rw [List.take_append_drop] at h1
 rw [h1, List.append_assoc]
 congr 1
 by_cases k : m < L.length
 ·obtain ⟨a, b⟩ := hn k
  rw [List.drop_eq_getElem_cons k]
  have e : partAt L m = L[m] := by unfold partAt; rw [List.getD_eq_getElem?_getD, List.getElem?_eq_getElem k]; rfl
  rw [e] at a b
  unfold insS
  rw [if_neg a, if_neg b]; rfl
 ·rw [List.drop_of_length_le (by omega)]; rfl
theorem ins_same {L : List ByteArray} {q : ByteArray} {m : Nat} (h : ∀ x ∈ L.take m, cmpS x q < 0) (hm : m < L.length) (e : partAt L m = q) : insS L q = L := by
 have h1 : insS (L.take m ++ L.drop m) q = L.take m ++ insS (L.drop m) q := insS_all (L.drop m) (L.take m) h
 rw [List.take_append_drop] at h1
 have e2 : L[m] = q := by rw [← e]; unfold partAt; rw [List.getD_eq_getElem?_getD, List.getElem?_eq_getElem hm]; rfl
 have h2 : insS (L.drop m) q = L.drop m := by
  rw [List.drop_eq_getElem_cons hm, e2]
  unfold insS
  rw [if_neg (cs_irrefl q), if_pos rfl]
 rw [h1, h2, List.take_append_drop]
theorem low_take {l : List ByteArray} {j : Nat} (h : j < l.length) : sortU ((l.take (j + 1)).map lowS) = insS (sortU ((l.take j).map lowS)) (lowS (partAt l j)) := by
 rw [take_snoc l j h, List.map_append, ← sortU_snoc]; rfl
theorem strs_takeO {w : World} {b n cap : Nat} {l : List ByteArray} (h : StrsAt w (some ⟨b, 0, none⟩) n cap l) (m : Nat) (hm : m ≤ n) : StrsAt w (some ⟨b, 0, none⟩) m cap (l.take m) := by
 obtain ⟨h1, h2, h3, h4⟩ := h
 refine ⟨by rw [List.length_take]; omega, by omega, h3, fun hp => ?_⟩
 obtain ⟨b', off, e, hb, hc⟩ := h4 (by omega)
 refine ⟨b', off, e, hb, fun j hj => ?_⟩
 rw [List.length_take] at hj
 rw [hc j (by omega)]
 unfold partAt
 rw [List.getD_eq_getElem?_getD, List.getD_eq_getElem?_getD, List.getElem?_take_of_lt (by omega)]
theorem strs_dropO {w : World} {b n cap : Nat} {l : List ByteArray} (h : StrsAt w (some ⟨b, 0, none⟩) n cap l) (m : Nat) (hm : m ≤ n) : StrsAt w (some ⟨b, m, none⟩) (n - m) (cap - m) (l.drop m) := by
 obtain ⟨h1, h2, h3, h4⟩ := h
 refine ⟨by rw [List.length_drop]; omega, by omega, by unfold maxLen at *; omega, fun hp => ?_⟩
 obtain ⟨b', off, e, hb, hc⟩ := h4 (by omega)
 obtain ⟨rfl, rfl, _⟩ := (show b = b' ∧ 0 = off ∧ True by have := Option.some.inj e; simp at this; exact ⟨this.1, this.2, trivial⟩)
 refine ⟨b, m, rfl, hb, fun j hj => ?_⟩
 rw [List.length_drop] at hj
 have := hc (m + j) (by omega)
 rw [Nat.zero_add] at this
 rw [this]
 unfold partAt
 rw [List.getD_eq_getElem?_getD, List.getD_eq_getElem?_getD, List.getElem?_drop]
theorem strs_zeroC (w : World) (ao : Option Addr) (c : Nat) (h : c ≤ maxLen) : StrsAt w ao 0 c [] := ⟨rfl, Nat.zero_le _, h, fun h => absurd h (Nat.lt_irrefl _)⟩
theorem strs_zero (w : World) (ao : Option Addr) : StrsAt w ao 0 0 [] := ⟨rfl, Nat.le_refl _, Nat.zero_le _, fun h => absurd h (Nat.lt_irrefl _)⟩
set_option maxHeartbeats 16000000 in
theorem lower7_s (ao : Option Addr) (n cap : Nat) (l : List ByteArray) (w : World) (h : StrsAt w ao n cap l) (hz : ∀ s ∈ l, s.size ≤ 1000000000) (hn : n ≤ 100000) :
  Calls Tryz.prog 218 #[.slice ao n cap] w fun e w' => ∃ oo oc, e = .returned (.slice oo (sortU (l.map lowS)).length oc) ∧ w'.ownsRow w.heap.size 9 1 (.slice oo (sortU (l.map lowS)).length oc) (sortU (l.map lowS)).length (scells (sortU (l.map lowS))) ∧ Below w.heap.size w w' := by
 have HS := Lib.hid h
 have HZ := Lib.hid hz
 have hl := h.1
 have hcx := h.2.2.1
 have hcn := h.2.1
 unfold maxLen at hcx
 have HLen := Lib.hid hl
 clear h hz hl
 go_enter Tryz.func218, Tryz.ntmps218
 go_wp2_with fail
 go_loopw [3, 4, 5, 6, 7] (fun s3 i s5 s6 s7 wr => ∃ (j : Nat) (L : List ByteArray) (oo : Option Addr) (oc : Nat), s3 = .slice oo L.length oc ∧ i = .int .i64 j ∧ j ≤ n ∧ Hid (L = sortU ((l.take j).map lowS)) ∧ Hid (wr.ownsRow w.heap.size 9 1 (.slice oo L.length oc) L.length (scells L)) ∧ Hid (L = [] → oo = none ∧ oc = 0) ∧ Hid (Below w.heap.size w wr)) (fun _ i _ _ _ _ => n - (intOf i).toNat)
 case atStart => exact ⟨0, [], none, 0, rfl, rfl, Nat.zero_le _, Lib.hid (by rw [List.take_zero]; rfl), Lib.hid (World.ownsRow_nil _ _ _ _), Lib.hid (fun _ => ⟨rfl, rfl⟩), Lib.hid (Below.refl _ _)⟩
 case round =>
  obtain ⟨j, L, oo, oc, rfl, rfl, hj, HL, HO, HE, HB⟩ := hrel
  have hLl : L.length ≤ 100000 := by
   rw [HL.out]
   have := sortU_len ((l.take j).map lowS)
   rw [List.length_map, List.length_take] at this
   omega
  by_cases hlt : j < n
  ·have d1 : decide ((j : Int) < (n : Int)) = true := decide_eq_true (by omega)
   have d0 : (0 : Int) ≤ (j : Int) := by omega
   have d3 : (j : Int) < (n : Int) := by omega
   obtain ⟨b, off, rfl, hbl, hs⟩ := HS.out.2.2.2 (by omega)
   have hcell := cell_later HB.out (hs j (by rw [HLen.out]; exact hlt))
   clear hs
   have hps := HZ.out _ (part_mem l j (by rw [HLen.out]; exact hlt))
   have HN := Lib.hid (low_take (l := l) (j := j) (by rw [HLen.out]; exact hlt))
   obtain ⟨p, hp⟩ : ∃ x, partAt l j = x := ⟨_, rfl⟩
   rw [hp] at hcell hps HN
   clear hp
   have HLw := Lib.hid (rLower_s p wr hps)
   obtain ⟨q, hq⟩ : ∃ x, lowS p = x := ⟨_, rfl⟩
   rw [hq] at HLw HN
   clear hq
   go_wp2_with fail
   refine HLw.out.mono ?_
   rintro e w1 ⟨rfl, hb⟩
   have HO1 := Lib.hid (own_below HO.out hb)
   have HB1 := Lib.hid (HB.out.trans (hb.mono HB.out.size))
   have HN2 := Lib.hid (show sortU ((l.take (j + 1)).map lowS) = insS L q by rw [HN.out, ← HL.out])
   clear hb hcell HLw
   go_wp2_with fail
   go_loop [6] (fun k => ∃ m : Nat, m ≤ L.length ∧ k = .int .i64 m ∧ Hid (∀ x ∈ L.take m, cmpS x q < 0)) (fun k => L.length - (intOf k).toNat)
   case atStart => exact ⟨0, Nat.zero_le _, rfl, Lib.hid (fun x hx => by rw [List.take_zero] at hx; cases hx)⟩
   case round =>
    obtain ⟨m, hm, rfl, HA⟩ := hrel
    have m0 : (0 : Int) ≤ (m : Int) := by omega
    by_cases hml : m < L.length
    ·have m1 : (m : Int) < (L.length : Int) := by omega
     have m2 : decide ((m : Int) < (L.length : Int)) = true := decide_eq_true m1
     obtain ⟨g, oc', e, hg1, hg2⟩ := own_loc HO1.out (by omega)
     simp only [Value.slice.injEq] at e
     obtain ⟨rfl, _, rfl⟩ := e
     obtain ⟨_, oc2, e2, hat⟩ := strs_own HO1.out rfl
     simp only [Value.slice.injEq] at e2
     obtain ⟨rfl, _, rfl⟩ := e2
     have HAt := Lib.hid hat
     obtain ⟨b2, off2, e3, hb2, hs2⟩ := hat.2.2.2 (by omega)
     obtain ⟨rfl, rfl⟩ := (show g = b2 ∧ 0 = off2 by have := Option.some.inj e3; simp at this; exact this)
     have hcm := hs2 m hml
     rw [Nat.zero_add] at hcm
     have hoc := hat.2.1
     have hocx := hat.2.2.1
     unfold maxLen at hocx
     have HTk := Lib.hid (take_snoc L m hml)
     obtain ⟨x, hx⟩ : ∃ y, partAt L m = y := ⟨_, rfl⟩
     have HX := Lib.hid hx
     rw [hx] at hcm HTk
     clear hx hs2 e3 hat
     by_cases hc : cmpS x q < 0
     ·have e5 : Op.bytesLess x.toList q.toList = true := by rw [str_less]; exact decide_eq_true hc
      have HA2 := Lib.hid (show ∀ y ∈ L.take (m + 1), cmpS y q < 0 from fun y hy => by
       rw [HTk.out] at hy
       rcases List.mem_append.1 hy with k | k
       ·exact HA.out y k
       ·rw [List.mem_singleton.1 k]; exact hc)
      go_wp2_with fail
      go_round
      case rel => exact ⟨m + 1, by omega, by go_num, HA2⟩
      case measure => simp [intOf]; omega
     ·have e5 : Op.bytesLess x.toList q.toList = false := by rw [str_less]; exact decide_eq_false hc
      by_cases hxq : x = q
      ·have HSm := Lib.hid (ins_same HA.out hml (HX.out.trans hxq))
       have e6 : (x.toList == q.toList) = true := by rw [hxq]; simp
       clear hxq
       go_wp2_with fail
       go_roundw
       case rel => exact ⟨j + 1, L, some ⟨g, 0, none⟩, oc, rfl, by go_num, by omega, Lib.hid (by rw [HN2.out, HSm.out]), HO1, Lib.hid (fun h => by rw [h] at hml; exact absurd hml (Nat.not_lt_zero _)), HB1⟩
       case measure => simp [intOf]; omega
      ·have e6 : (x.toList == q.toList) = false := by
        rw [Lib.toList_data, Lib.toList_data]
        exact beq_false_of_ne (fun k => hxq (ba_ext k))
       have HIn := Lib.hid (ins_at HA.out (Nat.le_of_lt hml) (fun _ => by rw [HX.out]; exact ⟨hc, hxq⟩))
       have m3 : (m : Int) ≤ (oc : Int) := by omega
       have m4 : (m : Int) ≤ (L.length : Int) := by omega
       have m5 : (m : Int) < (oc : Int) := by omega
       go_wp2_with (first
        | (at_builtin; refine push_strs w1 (World.ownsRow_nil w1 w1.heap.size 9 1) (.tmp 45) (.tmp 48) (strs_takeO HAt.out (m) (by omega)) ?_ ?_ ?_ ?_ ?_ ?_ ?_; exact rfl; exact rfl; exact rfl; exact rfl; omega; exact Nat.le_refl _; intro v2 w2 hown2 hg2 _; rw [Nat.zero_add, List.nil_append] at hown2; have HB2 := Lib.hid ((Below.refl w1.heap.size w1).grown hg2 (Nat.le_refl _) (fun k hk => by cases hk)); obtain ⟨ao2, cap2, rfl⟩ := own_slc hown2; have HO2 := Lib.hid hown2; clear hown2 hg2)
        | (at_builtin; refine push_str w2 HO2.out (.tmp 50) (.tmp 52) q ?_ ?_ ?_ ?_ ?_ ?_ ?_; exact rfl; exact rfl; exact rfl; exact rfl; omega; exact HB2.out.size; intro v3 w3 hown3 hb3; have HB3 := Lib.hid (HB2.out.trans hb3); obtain ⟨ao3, cap3, rfl⟩ := own_slc hown3; have HO3 := Lib.hid hown3; clear hown3 hb3)
        | (at_builtin; refine push_strs w3 HO3.out (.tmp 54) (.tmp 57) ((strs_dropO HAt.out (m) (by omega)).below (HB3.out)) ?_ ?_ ?_ ?_ ?_ ?_ ?_; exact rfl; exact rfl; exact rfl; exact rfl; omega; exact HB3.out.size; intro v4 w4 hown4 hg4 _; have HB4 := Lib.hid (HB3.out.grown hg4 HB3.out.size (fun k hk => (HO3.out.lt k hk).1)); rw [show m + 1 + (L.length - m) = L.length + 1 by omega] at hown4; obtain ⟨ao4, cap4, rfl⟩ := own_slc hown4; have HO4 := Lib.hid hown4; clear hown4 hg4))
       have HQ := Lib.hid (show insS L q = L.take (m) ++ [q] ++ L.drop (m) from HIn.out)
       have HQL := Lib.hid (show (insS L q).length = L.length + 1 by rw [HQ.out]; simp; try omega)
       have HR4 := Lib.hid (show w4.ownsRow w.heap.size 9 1 (.slice ao4 (insS L q).length cap4) (insS L q).length (scells (insS L q)) by
        rw [HQL.out]
        have := HO4.out.mono HB1.out.size
        rw [HQ.out, scells_app, scells_app]
        exact this)
       have HB5 := Lib.hid (HB1.out.trans (HB4.out.mono HB1.out.size))
       go_roundw
       case rel => exact ⟨j + 1, insS L q, ao4, cap4, by rw [HQL.out], by go_num, by omega, Lib.hid HN2.out.symm, HR4, Lib.hid (fun h => by have := HQL.out; rw [h] at this; simp at this), HB5⟩
       case measure => simp [intOf]; omega
    ·obtain rfl : L.length = m := by omega
     have m2 : decide ((L.length : Int) < (L.length : Int)) = false := decide_eq_false (by omega)
     have HIn := Lib.hid (ins_at HA.out (Nat.le_refl _) (fun h => absurd h (Nat.lt_irrefl _)))
     by_cases hz0 : L.length = 0
     ·obtain rfl : L = [] := List.length_eq_zero_iff.1 hz0
      obtain ⟨rfl, rfl⟩ := HE.out rfl
      simp only [List.length_nil] at *
      go_wp2_with (first
       | (at_builtin; refine push_strs w1 (World.ownsRow_nil w1 w1.heap.size 9 1) (.tmp 45) (.tmp 48) (vo := none) (vn := 0) (vc := 0) (vs := []) (strs_zero _ _) ?_ ?_ ?_ ?_ ?_ ?_ ?_; exact rfl; exact rfl; exact rfl; exact rfl; omega; exact Nat.le_refl _; intro v2 w2 hown2 hg2 _; rw [Nat.zero_add, List.nil_append] at hown2; have HB2 := Lib.hid ((Below.refl w1.heap.size w1).grown hg2 (Nat.le_refl _) (fun k hk => by cases hk)); obtain ⟨ao2, cap2, rfl⟩ := own_slc hown2; have HO2 := Lib.hid hown2; clear hown2 hg2)
       | (at_builtin; refine push_str w2 HO2.out (.tmp 50) (.tmp 52) q ?_ ?_ ?_ ?_ ?_ ?_ ?_; exact rfl; exact rfl; exact rfl; exact rfl; omega; exact HB2.out.size; intro v3 w3 hown3 hb3; have HB3 := Lib.hid (HB2.out.trans hb3); obtain ⟨ao3, cap3, rfl⟩ := own_slc hown3; have HO3 := Lib.hid hown3; clear hown3 hb3)
       | (at_builtin; refine push_strs w3 HO3.out (.tmp 54) (.tmp 57) (vo := none) (vn := 0) (vc := 0) (vs := []) (strs_zero _ _) ?_ ?_ ?_ ?_ ?_ ?_ ?_; exact rfl; exact rfl; exact rfl; exact rfl; omega; exact HB3.out.size; intro v4 w4 hown4 hg4 _; have HB4 := Lib.hid (HB3.out.grown hg4 HB3.out.size (fun k hk => (HO3.out.lt k hk).1)); rw [show 0 + 1 + 0 = 1 by omega] at hown4; obtain ⟨ao4, cap4, rfl⟩ := own_slc hown4; have HO4 := Lib.hid hown4; clear hown4 hg4))
      have HQ := Lib.hid (show insS ([] : List ByteArray) q = ([] : List ByteArray).take (0) ++ [q] ++ ([] : List ByteArray).drop (0) from HIn.out)
      have HQL := Lib.hid (show (insS ([] : List ByteArray) q).length = 1 by rw [HQ.out]; simp)
      have HR4 := Lib.hid (show w4.ownsRow w.heap.size 9 1 (.slice ao4 (insS ([] : List ByteArray) q).length cap4) (insS ([] : List ByteArray) q).length (scells (insS ([] : List ByteArray) q)) by
       rw [HQL.out]
       have := HO4.out.mono HB1.out.size
       rw [HQ.out, scells_app, scells_app]
       simpa [scells] using this)
      have HB5 := Lib.hid (HB1.out.trans (HB4.out.mono HB1.out.size))
      go_roundw
      case rel => exact ⟨j + 1, insS ([] : List ByteArray) q, ao4, cap4, by rw [HQL.out], by go_num, by omega, Lib.hid HN2.out.symm, HR4, Lib.hid (fun h => by have := HQL.out; rw [h] at this; simp at this), HB5⟩
      case measure => simp [intOf]; omega
     ·obtain ⟨g, oc', e, hg1, hg2⟩ := own_loc HO1.out (by omega)
      simp only [Value.slice.injEq] at e
      obtain ⟨rfl, _, rfl⟩ := e
      obtain ⟨_, oc2, e2, hat⟩ := strs_own HO1.out rfl
      simp only [Value.slice.injEq] at e2
      obtain ⟨rfl, _, rfl⟩ := e2
      have HAt := Lib.hid hat
      have hoc := hat.2.1
      have hocx := hat.2.2.1
      unfold maxLen at hocx
      clear hat
      have m3 : ((L.length : Nat) : Int) ≤ (oc : Int) := by omega
      have m4 : ((L.length : Nat) : Int) ≤ (L.length : Int) := by omega
      by_cases hcap : oc = L.length
      ·subst hcap
       go_wp2_with (first
        | (at_builtin; refine push_strs w1 (World.ownsRow_nil w1 w1.heap.size 9 1) (.tmp 45) (.tmp 48) (strs_takeO HAt.out (L.length) (by omega)) ?_ ?_ ?_ ?_ ?_ ?_ ?_; exact rfl; exact rfl; exact rfl; exact rfl; omega; exact Nat.le_refl _; intro v2 w2 hown2 hg2 _; rw [Nat.zero_add, List.nil_append] at hown2; have HB2 := Lib.hid ((Below.refl w1.heap.size w1).grown hg2 (Nat.le_refl _) (fun k hk => by cases hk)); obtain ⟨ao2, cap2, rfl⟩ := own_slc hown2; have HO2 := Lib.hid hown2; clear hown2 hg2)
        | (at_builtin; refine push_str w2 HO2.out (.tmp 50) (.tmp 52) q ?_ ?_ ?_ ?_ ?_ ?_ ?_; exact rfl; exact rfl; exact rfl; exact rfl; omega; exact HB2.out.size; intro v3 w3 hown3 hb3; have HB3 := Lib.hid (HB2.out.trans hb3); obtain ⟨ao3, cap3, rfl⟩ := own_slc hown3; have HO3 := Lib.hid hown3; clear hown3 hb3)
        | (at_builtin; refine push_strs w3 HO3.out (.tmp 54) (.tmp 57) (strs_zero _ (some ⟨g, 0, none⟩)) ?_ ?_ ?_ ?_ ?_ ?_ ?_; exact rfl; exact rfl; exact rfl; exact rfl; omega; exact HB3.out.size; intro v4 w4 hown4 hg4 _; have HB4 := Lib.hid (HB3.out.grown hg4 HB3.out.size (fun k hk => (HO3.out.lt k hk).1)); rw [show L.length + 1 + 0 = L.length + 1 by omega] at hown4; obtain ⟨ao4, cap4, rfl⟩ := own_slc hown4; have HO4 := Lib.hid hown4; clear hown4 hg4))
       have HQ := Lib.hid (show insS L q = L.take (L.length) ++ [q] ++ L.drop (L.length) from HIn.out)
       have HQL := Lib.hid (show (insS L q).length = L.length + 1 by rw [HQ.out]; simp; try omega)
       have HR4 := Lib.hid (show w4.ownsRow w.heap.size 9 1 (.slice ao4 (insS L q).length cap4) (insS L q).length (scells (insS L q)) by
        rw [HQL.out]
        have := HO4.out.mono HB1.out.size
        rw [HQ.out, scells_app, scells_app]
        rw [List.drop_of_length_le (Nat.le_refl _)]; exact this)
       have HB5 := Lib.hid (HB1.out.trans (HB4.out.mono HB1.out.size))
       go_roundw
       case rel => exact ⟨j + 1, insS L q, ao4, cap4, by rw [HQL.out], by go_num, by omega, Lib.hid HN2.out.symm, HR4, Lib.hid (fun h => by have := HQL.out; rw [h] at this; simp at this), HB5⟩
       case measure => simp [intOf]; omega
      ·have m5 : ((L.length : Nat) : Int) < (oc : Int) := by omega
       go_wp2_with (first
        | (at_builtin; refine push_strs w1 (World.ownsRow_nil w1 w1.heap.size 9 1) (.tmp 45) (.tmp 48) (strs_takeO HAt.out (L.length) (by omega)) ?_ ?_ ?_ ?_ ?_ ?_ ?_; exact rfl; exact rfl; exact rfl; exact rfl; omega; exact Nat.le_refl _; intro v2 w2 hown2 hg2 _; rw [Nat.zero_add, List.nil_append] at hown2; have HB2 := Lib.hid ((Below.refl w1.heap.size w1).grown hg2 (Nat.le_refl _) (fun k hk => by cases hk)); obtain ⟨ao2, cap2, rfl⟩ := own_slc hown2; have HO2 := Lib.hid hown2; clear hown2 hg2)
        | (at_builtin; refine push_str w2 HO2.out (.tmp 50) (.tmp 52) q ?_ ?_ ?_ ?_ ?_ ?_ ?_; exact rfl; exact rfl; exact rfl; exact rfl; omega; exact HB2.out.size; intro v3 w3 hown3 hb3; have HB3 := Lib.hid (HB2.out.trans hb3); obtain ⟨ao3, cap3, rfl⟩ := own_slc hown3; have HO3 := Lib.hid hown3; clear hown3 hb3)
        | (at_builtin; refine push_strs w3 HO3.out (.tmp 54) (.tmp 57) (strs_zeroC _ (some ⟨g, L.length, none⟩) (oc - L.length) (by unfold maxLen; omega)) ?_ ?_ ?_ ?_ ?_ ?_ ?_; exact rfl; exact rfl; exact rfl; exact rfl; omega; exact HB3.out.size; intro v4 w4 hown4 hg4 _; have HB4 := Lib.hid (HB3.out.grown hg4 HB3.out.size (fun k hk => (HO3.out.lt k hk).1)); rw [show L.length + 1 + 0 = L.length + 1 by omega] at hown4; obtain ⟨ao4, cap4, rfl⟩ := own_slc hown4; have HO4 := Lib.hid hown4; clear hown4 hg4))
       have HQ := Lib.hid (show insS L q = L.take (L.length) ++ [q] ++ L.drop (L.length) from HIn.out)
       have HQL := Lib.hid (show (insS L q).length = L.length + 1 by rw [HQ.out]; simp; try omega)
       have HR4 := Lib.hid (show w4.ownsRow w.heap.size 9 1 (.slice ao4 (insS L q).length cap4) (insS L q).length (scells (insS L q)) by
        rw [HQL.out]
        have := HO4.out.mono HB1.out.size
        rw [HQ.out, scells_app, scells_app]
        rw [List.drop_of_length_le (Nat.le_refl _)]; exact this)
       have HB5 := Lib.hid (HB1.out.trans (HB4.out.mono HB1.out.size))
       go_roundw
       case rel => exact ⟨j + 1, insS L q, ao4, cap4, by rw [HQL.out], by go_num, by omega, Lib.hid HN2.out.symm, HR4, Lib.hid (fun h => by have := HQL.out; rw [h] at this; simp at this), HB5⟩
       case measure => simp [intOf]; omega
  ·obtain rfl : n = j := by omega
   have d1 : decide ((n : Int) < (n : Int)) = false := decide_eq_false (by omega)
   have HLL := Lib.hid (show L = sortU (l.map lowS) by rw [HL.out, List.take_of_length_le (by rw [HLen.out]; exact Nat.le_refl _)])
   go_wp2_with fail
   go_ret
   rw [← HLL.out]
   exact ⟨_, _, rfl, HO.out, HB.out⟩
theorem step_push_strs {ops : Array Oper} {o : Oper} {a : Act} {K : Act → World → Prop} {Q : Exit → Act → World → Prop} {E : Prop} (wr : World) {base : Nat} {v : Value} {n : Nat} {xs : List Value} (hown : wr.ownsRow base 9 1 v n xs) (s x : Operand)
  {vo : Option Addr} {vn vc : Nat} {vs : List ByteArray} (hv : StrsAt wr vo vn vc vs) (hgd : o.guard = none)
  (ho : o.op = .call { callee := .builtin .append, args := #[s, x], argTypes := #[55, 55] })
  (hs : a.eval s = v) (hx : a.eval x = .slice vo vn vc) (hn : n + vn ≤ 1000000000) (hbase : base ≤ wr.heap.size)
  (h : ∀ v' w', w'.ownsRow base 9 1 v' (n + vn) (xs ++ scells vs) → Below base wr w' → K (a.put o.dst v') w') :
  if Region.wanted o (yielded ops a.tmps) = true then Oper.wp Tryz.prog o a wr K Q else E := by
 obtain ⟨i0, hi, hz0, hz1, hz2⟩ := info_parts info_string
 obtain ⟨h1, h2, h3, h4⟩ := hv
 have key : ∀ ad : Addr, vo = some ad → (∀ j u, (scells vs)[j]? = some u → wr.cell? (ad.add j) = some u) → if Region.wanted o (yielded ops a.tmps) = true then Oper.wp Tryz.prog o a wr K Q else E := fun ad e hc =>
  step_append_own_at hgd s x 55 ho base 9 i0 (.string ⟨#[]⟩) 1 16 Tryz.underlying55 hi hz0 hz1 hz2 rfl (by decide) v n xs hs hown ad vn vc (scells vs) (by rw [hx, e]) (by unfold scells; rw [List.length_map]; omega)
   hc (by intro u hu; unfold scells at hu; obtain ⟨y, _, rfl⟩ := List.mem_map.1 hu; rfl) (by unfold maxLen; omega) (by omega) hbase (fun v' w' k1 k2 _ => h v' w' k1 ((Below.refl base wr).grown k2 hbase (fun k hk => (hown.lt k hk).1)))
 by_cases hp : 0 < vn
 ·obtain ⟨b, off, e, hb, hc⟩ := h4 hp
  refine key _ e fun j u hu => ?_
  unfold scells at hu
  rw [List.getElem?_map] at hu
  cases hj : vs[j]? with
  | none => rw [hj] at hu; cases hu
  | some y =>
   rw [hj] at hu
   obtain rfl := (Option.some.inj hu).symm
   have hjl : j < vs.length := (List.getElem?_eq_some_iff.1 hj).1
   have := hc j hjl
   rw [Go.WideShapes.add_plain]
   rw [this]; unfold partAt
   rw [List.getD_eq_getElem?_getD, hj]; rfl
 ·have hvn : vn = 0 := by omega
  subst hvn
  have hvs : vs = [] := List.length_eq_zero_iff.1 h1
  subst hvs
  cases vo with
  | some ad => exact key ad rfl (fun j u hu => by simp [scells] at hu)
  | none =>
   have hrun : (Builtin.append_ #[55, 55] o.type #[v, .slice none 0 vc]).run Tryz.prog wr = .ok v wr := by
    rcases hown.2 with ⟨rfl, _⟩ | ⟨g, cap, cur, rfl, _, _, hc, _⟩
    ·exact run_append_nothing wr 55 55 o.type 9 i0 Tryz.underlying55 hi none 0 0 (Nat.le_refl _) _ (Src.ofNil wr Tryz.underlying55 vc)
    ·exact run_append_nothing wr 55 55 o.type 9 i0 Tryz.underlying55 hi _ _ _ hc _ (Src.ofNil wr Tryz.underlying55 vc)
   have hw : Region.wanted o (yielded ops a.tmps) = true := by simp [Region.wanted, hgd]
   rw [if_pos hw]
   unfold Oper.wp execOp
   simp only [ho, resolve, invoke, builtin, Sem.run_bind, Sem.run_pure, Result.andThen_ok, List.map_toArray, List.map_cons, List.map_nil, hs, hx, hrun]
   exact h v wr (by simpa [scells] using hown) (Below.refl _ _)
theorem sound_has {ts : List Ty} {cs : List Cl} {k : Nat} (h : k < (soundC ts cs).length) : soundC ts cs = cs := by
 unfold soundC at h ⊢
 split
 ·rfl
 ·rename_i hc; rw [if_neg hc] at h; exact absurd h (Nat.not_lt_zero _)
theorem ks_take (l : List Nat) (j : Nat) (h : j < l.length) : l.take (j + 1) = l.take j ++ [l.getD j 0] := by
 rw [List.getD_eq_getElem?_getD, List.getElem?_eq_getElem h]; exact List.take_succ_eq_append_getElem h
theorem ks_mem (l : List Nat) (j : Nat) (h : j < l.length) : l.getD j 0 ∈ l := by
 rw [List.getD_eq_getElem?_getD, List.getElem?_eq_getElem h]; exact List.getElem_mem h
theorem flat_each {f : Cl → List ByteArray} {C : List Cl} {P : ByteArray → Prop} (hf : ∀ c ∈ C, ∀ s ∈ f c, P s) {l : List Nat} (h : ∀ q ∈ l, q < C.length) : ∀ s ∈ (l.flatMap fun q => f (clAt C q)), P s := fun s hs => by
 obtain ⟨q, hq, hs⟩ := List.mem_flatMap.1 hs
 exact hf _ (cl_mem C q (h q hq)) s hs
theorem flat_map (f : Cl → List ByteArray) (C : List Cl) (ks : List Nat) : (ks.map (clAt C)).flatMap f = ks.flatMap fun q => f (clAt C q) := by rw [List.flatMap_map]
set_option maxHeartbeats 8000000 in
theorem must7_s (v : Value) (ts : List Ty) (cs : List Cl) (n : ByteArray) (w : World) (h : SchV w v ts cs) (hn : n.size ≤ 1000000000) :
  Calls Tryz.prog 142 #[v, .string n] w fun e w' => ∃ oo oc, e = .returned (.slice oo (mustS (soundC ts cs) n).length oc) ∧ w'.ownsRow w.heap.size 9 1 (.slice oo (mustS (soundC ts cs) n).length oc) (mustS (soundC ts cs) n).length (scells (mustS (soundC ts cs) n)) ∧ Below w.heap.size w w' := by
 have h' := h
 obtain ⟨ao, k, cap, bo, m, dap, rfl, _, hCl, _, hsC⟩ := h'
 have hb0 := (Below.refl w.heap.size w).alloc (Nat.le_refl _) (.cells #[.slice ao k cap, .slice bo m dap] 25)
 have HK0 := Lib.hid (fb_new w ao k cap bo m dap)
 have HC := Lib.hid (lineage7_s _ ts cs n _ (h.below hb0) hn)
 have HCl := Lib.hid hCl
 have hml := hCl.1
 have hmx := hCl.2.2.1
 unfold maxLen at hmx
 have hmc := hCl.2.1
 have HML := Lib.hid hml
 obtain ⟨C, hC⟩ : ∃ x, soundC ts cs = x := ⟨_, rfl⟩
 have HCs := Lib.hid (fun q (hq : q < C.length) => show C = cs by rw [← hC] at hq ⊢; exact sound_has hq)
 have HF := Lib.hid (fewC_sound ts cs)
 have HZ := Lib.hid (smC_sound (ts := ts) hsC)
 rw [hC] at HC HF HZ ⊢
 clear h hb0 hCl hsC hC hml
 go_enter Tryz.func142, Tryz.ntmps142
 go_wp2_with fail
 refine HC.out.mono ?_
 rintro e w1 ⟨io, ic, ks, rfl, hks, _, hmap, hlt, hk32, hb⟩
 have HK1 := Lib.hid (HK0.out.step hb)
 have HI := Lib.hid hks
 have HLt := Lib.hid hlt
 have HE := Lib.hid (show mustS C n = sortU ((ks.flatMap fun q => (clAt C q).must).map lowS) by rw [mustS_eq, ← hmap, flat_map])
 have hicx := hks.2.2.1
 unfold maxLen at hicx
 have hicc := hks.2.1
 clear hb hks hmap hlt HC HK0
 go_wp2_with fail
 go_loopw [5, 7] (fun s5 i wr => ∃ (j : Nat) (ro : Option Addr) (rc N : Nat), N ≤ j * 64 ∧ s5 = .slice ro N rc ∧ i = .int .i64 j ∧ j ≤ ks.length ∧ Hid (wr.ownsRow w1.heap.size 9 1 (.slice ro N rc) N (scells ((ks.take j).flatMap fun q => (clAt C q).must))) ∧ Hid (Below w1.heap.size w1 wr)) (fun _ i _ => ks.length - (intOf i).toNat)
 case atStart => exact ⟨0, none, 0, 0, Nat.zero_le _, rfl, rfl, Nat.zero_le _, Lib.hid (World.ownsRow_nil _ _ _ _), Lib.hid (Below.refl _ _)⟩
 case round =>
  obtain ⟨j, ro, rc, N, hN, rfl, rfl, hj, HO, HB⟩ := hrel
  have HK := Lib.hid (HK1.out.step HB.out)
  obtain ⟨c0, c1⟩ := HK.out.cells
  by_cases hlt : j < ks.length
  ·have d1 : decide ((j : Int) < (ks.length : Int)) = true := decide_eq_true (by omega)
   have d0 : (0 : Int) ≤ (j : Int) := by omega
   have d3 : (j : Int) < (ks.length : Int) := by omega
   obtain ⟨ib, ioff, rfl, hib, his⟩ := (HI.out.below HB.out).2.2.2 (by omega)
   have hic := his j hlt
   have hq := HLt.out _ (ks_mem ks j hlt)
   have HT := Lib.hid (ks_take ks j hlt)
   obtain ⟨q, hqq⟩ : ∃ x, ks.getD j 0 = x := ⟨_, rfl⟩
   rw [hqq] at hic hq HT
   have hCc := HCs.out q hq
   have hqm : q < m := by rw [← HML.out, ← hCc]; exact hq
   have q0 : (0 : Int) ≤ (q : Int) := by omega
   have q1 : (q : Int) < (m : Int) := by omega
   obtain ⟨b, off, rfl, hbl, hs⟩ := (HCl.out.below HK.out.low).2.2.2 (by omega)
   obtain ⟨_, _, ⟨a1, p1, q1, y0, hS1⟩, _⟩ := hs q hqm
   rw [← hCc] at hS1
   have hml := HF.out _ (cl_mem C q hq)
   obtain ⟨mu, hmu⟩ : ∃ x, (clAt C q).must = x := ⟨_, rfl⟩
   rw [hmu] at hS1
   have HN := Lib.hid hmu
   have HS1 := Lib.hid hS1
   have hp1 := hS1.1
   have hmu64 : p1 ≤ 64 := by rw [← hp1, ← hmu]; exact hml.1
   have hp1x := hS1.2.2.1
   unfold maxLen at hp1x
   have hp1c := hS1.2.1
   have hsz := HB.out.size
   clear his hs hqq hCc hmu hS1 hp1 hml
   go_wp2_with fail
   go_region_law (refine step_push_strs wr.drew (base := w1.heap.size) (v := .slice ro N rc) (n := N) (xs := scells ((ks.take j).flatMap fun q => (clAt C q).must)) (show World.ownsRow _ _ _ _ _ _ _ from HO.out) _ _ (vo := a1) (vn := p1) (vc := q1) (vs := mu) (show StrsAt _ _ _ _ _ from HS1.out) rfl rfl rfl (by simp [Act.eval, Act.put]) (by omega) (by simp; omega) ?_; intro v3 w3 g1 g2; obtain ⟨ao3, cap3, rfl⟩ := row_slice g1; have HO3 := Lib.hid g1; have HB3 := Lib.hid g2; clear g1 g2)
   all_goals
    have HBn := Lib.hid (HB.out.trans (show Below w1.heap.size wr w3 from ⟨HB3.out.os, HB3.out.tape, HB3.out.output, HB3.out.size, HB3.out.block⟩))
    have HOn := Lib.hid (show w3.ownsRow w1.heap.size 9 1 (.slice ao3 (N + p1) cap3) (N + p1) (scells ((ks.take (j + 1)).flatMap fun q => (clAt C q).must)) by
     rw [HT.out, List.flatMap_append, scells_app, List.flatMap_cons, List.flatMap_nil, List.append_nil, HN.out]
     exact HO3.out)
    clear HB3 HO3
    go_wp2_with fail
    go_roundw
    case rel => exact ⟨j + 1, ao3, cap3, N + p1, by omega, rfl, by go_num, by omega, HOn, HBn⟩
    case measure => simp [intOf]; omega
  ·obtain rfl : ks.length = j := by omega
   have d1 : decide ((ks.length : Int) < (ks.length : Int)) = false := decide_eq_false (by omega)
   obtain ⟨L, hL⟩ : ∃ x, (ks.flatMap fun q => (clAt C q).must) = x := ⟨_, rfl⟩
   have hLs : ∀ s ∈ L, s.size ≤ 1000000000 := by rw [← hL]; exact flat_each (f := fun c => c.must) (P := fun s => s.size ≤ 1000000000) (fun c hc s hs => (HZ.out c hc).2.2.1 s hs) HLt.out
   have hO := HO.out
   rw [List.take_length, hL] at hO
   have hLN : L.length = N := by
    have := hO.1
    unfold scells at this
    rw [List.length_map] at this
    omega
   obtain ⟨ro', rc', e, hst⟩ := strs_own hO hLN
   simp only [Value.slice.injEq] at e
   obtain ⟨rfl, _, rfl⟩ := e
   have HLw := Lib.hid (lower7_s ro N rc L wr hst hLs (by omega))
   rw [← hL, ← HE.out] at HLw
   have hwr := Nat.le_trans HK1.out.low.size HB.out.size
   clear hO hst hL hLs
   go_wp2_with fail
   refine HLw.out.mono ?_
   rintro e w4 ⟨oo, oc, rfl, ho, hb⟩
   have HO4 := Lib.hid (ho.mono hwr)
   have HB4 := Lib.hid (HK.out.low.trans (hb.mono hwr))
   clear ho hb
   go_wp2_with fail
   go_ret
   exact ⟨_, _, rfl, HO4.out, HB4.out⟩
end Go.Proofs.YtmmdaegdkikkpaaGreatDoor
end
