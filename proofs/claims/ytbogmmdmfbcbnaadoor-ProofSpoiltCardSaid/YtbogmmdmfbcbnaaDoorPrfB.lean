/-
  Contracts of methods, Challenge, Check, Unique of the program and of the specification. Condition: at most 1000000 bytes; the library's variables are there.
-/
import Derived.Test.YtbogmmdmfbcbnaaDoorPrfM
set_option maxRecDepth 100000
set_option linter.unusedVariables false
set_option linter.unusedSimpArgs false
set_option linter.unnecessarySimpa false
namespace Go.Proofs.YtbogmmdmfbcbnaaDoor
open Go.RowKit Go.PlainAid Go.Maps

theorem text_k (s r : ByteArray) (w : World) (hs : s.size ≤ 1000000000) (hr : txtS s = r) :
    Calls Tryd.prog 18 #[.string s] w fun e w' => e = .returned (.string r) ∧ Below w.heap.size w w' := hr ▸ text_s s w hs
theorem rtext_k (s r : ByteArray) (w : World) (hs : s.size ≤ 1000000000) (hr : txtS s = r) :
    Calls Tryd.prog 30 #[.string s] w fun e w' => e = .returned (.string r) ∧ w = w' := hr ▸ rtext_s s w hs
theorem base64_k (s r : ByteArray) (w : World) (hs : s.size ≤ 1000000000) (hr : b64S s = r) :
    Calls Tryd.prog 49 #[.string s] w fun e w' => e = .returned (.string r) ∧ Below w.heap.size w w' := hr ▸ base64_s s w hs
theorem rbase64_k (s r : ByteArray) (w : World) (hs : s.size ≤ 1000000000) (hr : b64S s = r) :
    Calls Tryd.prog 29 #[.string s] w fun e w' => e = .returned (.string r) ∧ Below w.heap.size w w' := hr ▸ rbase64_s s w hs
def f1V : Value := .func (.func 47) #[] #[]
def f2V : Value := .func (.func 48) #[] #[]
theorem m1_k (s : ByteArray) (w : World) : Calls Tryd.prog 47 #[.string s] w fun e w' => e = .returned (.string s) ∧ w = w' := by
  go_enter Tryd.func47, Tryd.ntmps47
  go_wp2_with fail
  go_ret
  exact ⟨rfl, rfl⟩
theorem m2_k (s r : ByteArray) (w : World) (hs : s.size ≤ 1000000000) (hr : b64S (txtS s) = r) : Calls Tryd.prog 48 #[.string s] w fun e w' => e = .returned (.string r) ∧ Below w.heap.size w w' := by
  have hz := txtS_size s
  obtain ⟨t, ht⟩ : ∃ t, txtS s = t := ⟨_, rfl⟩
  rw [ht] at hr hz
  have HT := Lib.hid ht
  have HR := Lib.hid hr
  have hz2 : t.size ≤ 1000000000 := by omega
  clear ht hr hz
  go_enter Tryd.func48, Tryd.ntmps48
  go_wp2_with fail
  refine (text_k s t _ hs HT.out).mono ?_
  rintro e w1 ⟨rfl, hb⟩
  have HB := Lib.hid hb
  clear hb
  go_wp2_with fail
  refine (base64_k t r _ hz2 HR.out).mono ?_
  rintro e w2 ⟨rfl, hb⟩
  have HB := Lib.hid (HB.out.trans (hb.mono HB.out.size))
  clear hb
  go_wp2_with fail
  go_ret
  exact ⟨rfl, HB.out⟩
theorem zero_f (w : World) : (zeroValue 32).run Tryd.prog w = .ok .nilFunc w := by rfl
def mthF (k : Int) : Option Value := setI (setI (fun _ => none) 1 f1V) 2 f2V k
theorem methods_k (w : World) : Calls Tryd.prog 28 #[] w fun e w' => ∃ g, e = .returned (.map (some g)) ∧ IMap w' g 2 mthF ∧ Below w.heap.size w w' := by
  have hmm := @run_makeMap Tryd.prog
  obtain ⟨w2, hrun1, hm2, hg2⟩ := (imap_made w).store (t := 44) (e := 32) Tryd.underlying44 (by decide) 1 (by decide) f1V
  obtain ⟨w3, hrun2, hm3, hg3⟩ := hm2.store (t := 44) (e := 32) Tryd.underlying44 (by decide) 2 (by decide) f2V
  have HM : Hid (IMap w3 w.heap.size 2 mthF) := Lib.hid hm3
  have HB : Hid (Below w.heap.size w w3) := Lib.hid (((box_below w (.map #[] 0)).grown hg2 (by simp) (fun k hk => by injection hk with hk; omega)).grown hg3 (by
      have := hg2.size
      rw [World.size_alloc] at this; omega) (fun k hk => by injection hk with hk; omega))
  clear hm2 hg2 hm3 hg3
  unfold f1V at hrun1
  unfold f2V at hrun2
  go_enter Tryd.func28, Tryd.ntmps28
  go_wp2_with fail
  go_ret
  exact ⟨_, rfl, HM.out, HB.out⟩
theorem IMap.get {w : World} {g n : Nat} {f : Int → Option Value} (h : IMap w g n f) {m : Int} (hm : (Lit.int .i64 m).wf = true) : (Instr.lookup 44 (.map (some g)) (.int .i64 m) true).run Tryd.prog w = .ok (.tuple #[(f m).getD .nilFunc, .bool (f m).isSome]) w :=
  h.look_ok (e := 32) Tryd.underlying44 (zero_f w) m hm
theorem wf_of {m : Int} (h0 : -9223372036854775808 ≤ m) (h1 : m ≤ 9223372036854775807) : (Lit.int .i64 m).wf = true := by
  unfold Lit.wf
  rw [Bool.and_eq_true, decide_eq_true_iff, decide_eq_true_iff]; exact ⟨h0, h1⟩
theorem ch_no {m : Int} {s : ByteArray} (h : ¬ (m = 1 ∨ m = 2)) : chE m s = 2 ∧ chS m s = ⟨#[]⟩ := by
  have : chE m s = 2 := by unfold chE; rw [if_neg h]
  exact ⟨this, by unfold chS; rw [this, if_neg (by decide)]⟩
theorem ch_bad {m : Int} {s : ByteArray} (h : m = 1 ∨ m = 2) (hv : valB s = false) : chE m s = 4 ∧ chS m s = ⟨#[]⟩ := by
  have : chE m s = 4 := by unfold chE; rw [if_pos h, if_neg (by simp [hv])]
  exact ⟨this, by unfold chS; rw [this, if_neg (by decide)]⟩
theorem ch_1 {s : ByteArray} (hv : valB s = true) : chE 1 s = 0 ∧ chS 1 s = s := by
  have : chE 1 s = 0 := by unfold chE; rw [if_pos (Or.inl rfl), if_pos hv]
  exact ⟨this, by unfold chS; rw [this, if_pos rfl, if_pos rfl]⟩
theorem ch_2 {s : ByteArray} (hv : valB s = true) : chE 2 s = 0 ∧ chS 2 s = b64S (txtS s) := by
  have : chE 2 s = 0 := by unfold chE; rw [if_pos (Or.inr rfl), if_pos hv]
  exact ⟨this, by unfold chS; rw [this, if_pos rfl, if_neg (by decide)]⟩
set_option maxHeartbeats 4000000 in
theorem challenge_k (m : Int) (s r : ByteArray) (x : Int) (w : World) (hs : s.size ≤ 1000000) (h0 : -9223372036854775808 ≤ m) (h1 : m ≤ 9223372036854775807) (hr : chS m s = r) (hx : chE m s = x) :
    Calls Tryd.prog 11 #[.int .i64 m, .string s] w fun e w' => e = .returned (.tuple #[.string r, .int .i64 x]) ∧ Below w.heap.size w w' := by
  have hs9 : s.size ≤ 1000000000 := by omega
  have hwf := wf_of h0 h1
  by_cases hm : m = 1 ∨ m = 2
  · cases hv : valB s with
    | false =>
      rw [(ch_bad hm hv).1] at hx
      rw [(ch_bad hm hv).2] at hr
      subst hr hx
      have HV := Lib.hid hv
      have hlk : ∀ (W : World) (g : Nat), IMap W g 2 mthF → ∃ fv, (Instr.lookup 44 (.map (some g)) (.int .i64 m) true).run Tryd.prog W = .ok (.tuple #[fv, .bool true]) W := fun W g h => by
        have := h.get hwf
        rcases hm with rfl | rfl
        · exact ⟨_, this⟩
        · exact ⟨_, this⟩
      have HLk := Lib.hid hlk
      clear hm hv hwf h0 h1 hlk
      go_enter Tryd.func11, Tryd.ntmps11
      go_wp2_with fail
      refine (methods_k _).mono ?_
      rintro e w1 ⟨g, rfl, hm, hb⟩
      have HB := Lib.hid hb
      obtain ⟨fv, hget⟩ := HLk.out _ _ hm
      clear hm hb
      go_wp2_with fail
      refine (valid_k s false _ hs9 HV.out).mono ?_
      rintro e w' ⟨rfl, rfl⟩
      go_wp2_with fail
      go_ret2
      exact ⟨rfl, HB.out⟩
    | true =>
      have HV := Lib.hid hv
      rcases hm with rfl | rfl
      · rw [(ch_1 hv).1] at hx
        rw [(ch_1 hv).2] at hr
        subst hr hx
        have HLk := Lib.hid (fun (W : World) (g : Nat) (h : IMap W g 2 mthF) => h.get hwf)
        clear hv hwf h0 h1
        go_enter Tryd.func11, Tryd.ntmps11
        go_wp2_with fail
        refine (methods_k _).mono ?_
        rintro e w1 ⟨g, rfl, hm, hb⟩
        have HB := Lib.hid hb
        have hget : (Instr.lookup 44 (.map (some g)) (.int .i64 1) true).run Tryd.prog w1 = .ok (.tuple #[.func (.func 47) #[] #[], .bool true]) w1 := HLk.out _ _ hm
        clear hm hb
        go_wp2_with fail
        refine (valid_k s true _ hs9 HV.out).mono ?_
        rintro e w' ⟨rfl, rfl⟩
        go_wp2_with fail
        refine (m1_k s _).mono ?_
        rintro e w' ⟨rfl, rfl⟩
        go_wp2_with fail
        go_ret2
        exact ⟨rfl, HB.out⟩
      · rw [(ch_2 hv).1] at hx
        rw [(ch_2 hv).2] at hr
        subst hx
        have HR := Lib.hid hr
        have HLk := Lib.hid (fun (W : World) (g : Nat) (h : IMap W g 2 mthF) => h.get hwf)
        clear hv hwf h0 h1 hr
        go_enter Tryd.func11, Tryd.ntmps11
        go_wp2_with fail
        refine (methods_k _).mono ?_
        rintro e w1 ⟨g, rfl, hm, hb⟩
        have HB := Lib.hid hb
        have hget : (Instr.lookup 44 (.map (some g)) (.int .i64 2) true).run Tryd.prog w1 = .ok (.tuple #[.func (.func 48) #[] #[], .bool true]) w1 := HLk.out _ _ hm
        clear hm hb
        go_wp2_with fail
        refine (valid_k s true _ hs9 HV.out).mono ?_
        rintro e w' ⟨rfl, rfl⟩
        go_wp2_with fail
        refine (m2_k s r _ hs9 HR.out).mono ?_
        rintro e w2 ⟨rfl, hb⟩
        have HB := Lib.hid (HB.out.trans (hb.mono HB.out.size))
        clear hb
        go_wp2_with fail
        go_ret2
        exact ⟨rfl, HB.out⟩
  · rw [(ch_no hm).1] at hx
    rw [(ch_no hm).2] at hr
    subst hr hx
    have hlk : ∀ (W : World) (g : Nat), IMap W g 2 mthF → (Instr.lookup 44 (.map (some g)) (.int .i64 m) true).run Tryd.prog W = .ok (.tuple #[.nilFunc, .bool false]) W := fun W g h => by
      have := h.get hwf
      have e : mthF m = none := by
        unfold mthF setI
        rw [if_neg (fun k => hm (.inr k)), if_neg (fun k => hm (.inl k))]
      rw [e] at this
      exact this
    have HLk := Lib.hid hlk
    clear hm hwf h0 h1 hlk
    go_enter Tryd.func11, Tryd.ntmps11
    go_wp2_with fail
    refine (methods_k _).mono ?_
    rintro e w1 ⟨g, rfl, hm, hb⟩
    have HB := Lib.hid hb
    have hget := HLk.out _ _ hm
    clear hm hb
    go_wp2_with fail
    go_ret2
    exact ⟨rfl, HB.out⟩
set_option maxHeartbeats 4000000 in
theorem rchallenge_k (m : Int) (s r : ByteArray) (x : Int) (w : World) (hs : s.size ≤ 1000000) (hr : chS m s = r) (hx : chE m s = x) :
    Calls Tryd.prog 12 #[.int .i64 m, .string s] w fun e w' => e = .returned (.tuple #[.string r, .int .i64 x]) ∧ Below w.heap.size w w' := by
  have hs9 : s.size ≤ 1000000000 := by omega
  by_cases h1 : m = 1
  · subst h1
    obtain ⟨v, hv⟩ : ∃ v, valB s = v := ⟨_, rfl⟩
    have HV := Lib.hid hv
    cases v with
    | false =>
      rw [(ch_bad (Or.inl rfl) hv).1] at hx
      rw [(ch_bad (Or.inl rfl) hv).2] at hr
      subst hr hx
      clear hv
      go_enter Tryd.func12, Tryd.ntmps12
      go_wp2_with fail
      refine (rvalid_k s false _ hs9 HV.out).mono ?_
      rintro e w' ⟨rfl, rfl⟩
      go_wp2_with fail
      go_ret2
      exact ⟨rfl, Below.refl _ _⟩
    | true =>
      rw [(ch_1 hv).1] at hx
      rw [(ch_1 hv).2] at hr
      subst hr hx
      clear hv
      go_enter Tryd.func12, Tryd.ntmps12
      go_wp2_with fail
      refine (rvalid_k s true _ hs9 HV.out).mono ?_
      rintro e w' ⟨rfl, rfl⟩
      go_wp2_with fail
      go_ret2
      exact ⟨rfl, Below.refl _ _⟩
  · by_cases h2 : m = 2
    · subst h2
      obtain ⟨v, hv⟩ : ∃ v, valB s = v := ⟨_, rfl⟩
      have HV := Lib.hid hv
      clear h1
      cases v with
      | false =>
        rw [(ch_bad (Or.inr rfl) hv).1] at hx
        rw [(ch_bad (Or.inr rfl) hv).2] at hr
        subst hr hx
        clear hv
        go_enter Tryd.func12, Tryd.ntmps12
        go_wp2_with fail
        refine (rvalid_k s false _ hs9 HV.out).mono ?_
        rintro e w' ⟨rfl, rfl⟩
        go_wp2_with fail
        go_ret2
        exact ⟨rfl, Below.refl _ _⟩
      | true =>
        rw [(ch_2 hv).1] at hx
        rw [(ch_2 hv).2] at hr
        subst hx
        clear hv
        have hz := txtS_size s
        obtain ⟨t, ht⟩ : ∃ t, txtS s = t := ⟨_, rfl⟩
        rw [ht] at hr hz
        have HT := Lib.hid ht
        have HR := Lib.hid hr
        have hz2 : t.size ≤ 1000000000 := by omega
        clear ht hr hz
        go_enter Tryd.func12, Tryd.ntmps12
        go_wp2_with fail
        refine (rvalid_k s true _ hs9 HV.out).mono ?_
        rintro e w' ⟨rfl, rfl⟩
        go_wp2_with fail
        refine (rtext_k s t _ hs9 HT.out).mono ?_
        rintro e w' ⟨rfl, rfl⟩
        go_wp2_with fail
        refine (rbase64_k t r _ hz2 HR.out).mono ?_
        rintro e w2 ⟨rfl, hb⟩
        have HB := Lib.hid hb
        clear hb
        go_wp2_with fail
        go_ret2
        exact ⟨rfl, HB.out⟩
    · have hno : ¬ (m = 1 ∨ m = 2) := by rintro (k | k) <;> contradiction
      rw [(ch_no hno).1] at hx
      rw [(ch_no hno).2] at hr
      subst hr hx
      clear hno
      have e1 : (m != 1) = true := by simp [h1]
      have e2 : (m != 2) = true := by simp [h2]
      clear h1 h2
      go_enter Tryd.func12, Tryd.ntmps12
      go_wp2_with fail
      go_ret2
      exact ⟨rfl, Below.refl _ _⟩
theorem str_b (a b : ByteArray) : (a.toList == b.toList) = decide (a = b) := by
  rw [Lib.toList_data, Lib.toList_data, Bool.eq_iff_iff, beq_iff_eq, decide_eq_true_eq]
  exact ⟨fun h => by rw [← Lib.mk_data a, ← Lib.mk_data b, h], fun h => by rw [h]⟩
theorem str_ne {a b : ByteArray} (h : a ≠ b) : (a.toList == b.toList) = false ∧ (a.toList != b.toList) = true := by
  have : (a.toList == b.toList) = false := by rw [str_b]; exact decide_eq_false h
  exact ⟨this, by simp [bne, this]⟩
theorem str_eq (a : ByteArray) : (a.toList == a.toList) = true ∧ (a.toList != a.toList) = false := ⟨beq_self_eq_true _, bne_self_eq_false _⟩
theorem beq0 {r : Int} (h : r ≠ 0) : (r == 0) = false ∧ (r != 0) = true := ⟨beq_eq_false_iff_ne.2 h, by simp [h]⟩
set_option maxHeartbeats 4000000 in
theorem check_k (m : Int) (c s : ByteArray) (x : Int) (w : World) (hs : s.size ≤ 1000000) (h0 : -9223372036854775808 ≤ m) (h1 : m ≤ 9223372036854775807) (hx : ckE m c s = x) :
    Calls Tryd.prog 15 #[.int .i64 m, .string c, .string s] w fun e w' => e = .returned (.int .i64 x) ∧ Below w.heap.size w w' := by
  obtain ⟨r, hr⟩ : ∃ r, chS m s = r := ⟨_, rfl⟩
  obtain ⟨y, hy⟩ : ∃ y, chE m s = y := ⟨_, rfl⟩
  unfold ckE at hx
  rw [hr, hy] at hx
  have HC := Lib.hid (fun W => challenge_k m s r y W hs h0 h1 hr hy)
  clear hr hy h0 h1
  by_cases hy0 : y = 0
  · subst hy0
    rw [if_pos rfl] at hx
    by_cases hc : c = r
    · rw [if_pos hc] at hx
      subst hx hc
      obtain ⟨q1, q2⟩ := str_eq c
      go_enter Tryd.func15, Tryd.ntmps15
      go_wp2_with fail
      refine (HC.out _).mono ?_
      rintro e w1 ⟨rfl, hb⟩
      have HB := Lib.hid hb
      clear hb
      go_wp2_with fail
      go_ret
      exact ⟨rfl, HB.out⟩
    · rw [if_neg hc] at hx
      subst hx
      obtain ⟨q1, q2⟩ := str_ne hc
      clear hc
      go_enter Tryd.func15, Tryd.ntmps15
      go_wp2_with fail
      refine (HC.out _).mono ?_
      rintro e w1 ⟨rfl, hb⟩
      have HB := Lib.hid hb
      clear hb
      go_wp2_with fail
      go_ret
      exact ⟨rfl, HB.out⟩
  · rw [if_neg hy0] at hx
    subst hx
    obtain ⟨q1, q2⟩ := beq0 hy0
    clear hy0
    go_enter Tryd.func15, Tryd.ntmps15
    go_wp2_with fail
    refine (HC.out _).mono ?_
    rintro e w1 ⟨rfl, hb⟩
    have HB := Lib.hid hb
    clear hb
    go_wp2_with fail
    go_ret
    exact ⟨rfl, HB.out⟩
set_option maxHeartbeats 4000000 in
theorem rcheck_k (m : Int) (c s : ByteArray) (x : Int) (w : World) (hs : s.size ≤ 1000000) (hx : ckE m c s = x) :
    Calls Tryd.prog 16 #[.int .i64 m, .string c, .string s] w fun e w' => e = .returned (.int .i64 x) ∧ Below w.heap.size w w' := by
  obtain ⟨r, hr⟩ : ∃ r, chS m s = r := ⟨_, rfl⟩
  obtain ⟨y, hy⟩ : ∃ y, chE m s = y := ⟨_, rfl⟩
  unfold ckE at hx
  rw [hr, hy] at hx
  have HC := Lib.hid (fun W => rchallenge_k m s r y W hs hr hy)
  clear hr hy
  by_cases hy0 : y = 0
  · subst hy0
    rw [if_pos rfl] at hx
    by_cases hc : c = r
    · rw [if_pos hc] at hx
      subst hx hc
      obtain ⟨q1, q2⟩ := str_eq c
      go_enter Tryd.func16, Tryd.ntmps16
      go_wp2_with fail
      refine (HC.out _).mono ?_
      rintro e w1 ⟨rfl, hb⟩
      have HB := Lib.hid hb
      clear hb
      go_wp2_with fail
      go_ret
      exact ⟨rfl, HB.out⟩
    · rw [if_neg hc] at hx
      subst hx
      obtain ⟨q1, q2⟩ := str_ne (fun e => hc e.symm)
      clear hc
      go_enter Tryd.func16, Tryd.ntmps16
      go_wp2_with fail
      refine (HC.out _).mono ?_
      rintro e w1 ⟨rfl, hb⟩
      have HB := Lib.hid hb
      clear hb
      go_wp2_with fail
      go_ret
      exact ⟨rfl, HB.out⟩
  · rw [if_neg hy0] at hx
    subst hx
    obtain ⟨q1, q2⟩ := beq0 hy0
    clear hy0
    go_enter Tryd.func16, Tryd.ntmps16
    go_wp2_with fail
    refine (HC.out _).mono ?_
    rintro e w1 ⟨rfl, hb⟩
    have HB := Lib.hid hb
    clear hb
    go_wp2_with fail
    go_ret
    exact ⟨rfl, HB.out⟩
theorem itoa_size (n : Int) (h0 : -9223372036854775808 ≤ n) (h1 : n ≤ 9223372036854775807) : (ofL (Lib.itoa n)).size ≤ 21 := by
  unfold ofL; rw [Lib.size_mk]; exact Lib.itoa_length_le n h0 h1
theorem pint_k (n : Int) (r : ByteArray) (w : World) (h0 : -9223372036854775808 ≤ n) (h1 : n ≤ 9223372036854775807) (ho : PowOk w) (hr : ofL (Lib.itoa n) = r) :
    Calls Tryd.prog 22 #[.int .i64 n] w fun e w' => e = .returned (.string r) ∧ Below w.heap.size w w' := by
  have HO := Lib.hid ho; clear ho
  have HR := Lib.hid hr
  clear hr
  go_enter Tryd.func22, Tryd.ntmps22
  go_wp2_with (go_at_call 40; refine (Tryd.strconv_Itoa n h0 h1 _ HO.out).mono ?_; rintro e w1 ⟨rfl, kk, os, rfl⟩)
  go_ret
  exact ⟨by rw [← HR.out]; rfl, below_grow w kk os⟩
theorem rint_k (n : Int) (r : ByteArray) (w : World) (h0 : -9223372036854775808 ≤ n) (h1 : n ≤ 9223372036854775807) (hr : ofL (Lib.itoa n) = r) :
    Calls Tryd.prog 38 #[.int .i64 n] w fun e w' => e = .returned (.string r) ∧ Below w.heap.size w w' := hr ▸ rint_s n w h0 h1
set_option maxHeartbeats 4000000 in
theorem unique_k (seed : ByteArray) (n : Int) (r : ByteArray) (w : World) (hs : seed.size ≤ 1000000) (h0 : -9223372036854775808 ≤ n) (h1 : n ≤ 9223372036854775807) (ho : POk w) (hr : unS seed n = r) :
    Calls Tryd.prog 19 #[.string seed, .int .i64 n] w fun e w' => e = .returned (.string r) ∧ Below w.heap.size w w' := by
  have hz := itoa_size n h0 h1
  unfold unS at hr
  obtain ⟨i, hi⟩ : ∃ i, ofL (Lib.itoa n) = i := ⟨_, rfl⟩
  rw [hi] at hr hz
  have hz3 : (i ++ ⟨#[58]⟩ ++ seed).size ≤ 1000000000 := by
    rw [ByteArray.size_append, ByteArray.size_append]
    have : (⟨#[58]⟩ : ByteArray).size = 1 := rfl
    omega
  have hz4 := txtS_size (i ++ ⟨#[58]⟩ ++ seed)
  obtain ⟨t, ht⟩ : ∃ t, txtS (i ++ ⟨#[58]⟩ ++ seed) = t := ⟨_, rfl⟩
  rw [ht] at hr hz4
  have HI := Lib.hid hi
  have HT := Lib.hid ht
  have HO := Lib.hid ho.2
  subst hr
  have HZ3 := Lib.hid hz3
  clear hi ht ho hz3
  go_enter Tryd.func19, Tryd.ntmps19
  go_wp2_with fail
  refine (pint_k n i _ h0 h1 HO.out HI.out).mono ?_
  rintro e w1 ⟨rfl, hb⟩
  have HB := Lib.hid hb
  clear hb
  go_wp2_with fail
  refine (text_k _ t _ HZ3.out HT.out).mono ?_
  rintro e w2 ⟨rfl, hb⟩
  have HB := Lib.hid (HB.out.trans (hb.mono HB.out.size))
  clear hb
  go_wp2_with fail
  go_ret
  exact ⟨rfl, HB.out⟩
set_option maxHeartbeats 4000000 in
theorem runique_k (seed : ByteArray) (n : Int) (r : ByteArray) (w : World) (hs : seed.size ≤ 1000000) (h0 : -9223372036854775808 ≤ n) (h1 : n ≤ 9223372036854775807) (hr : unS seed n = r) :
    Calls Tryd.prog 20 #[.string seed, .int .i64 n] w fun e w' => e = .returned (.string r) ∧ Below w.heap.size w w' := by
  have hz := itoa_size n h0 h1
  unfold unS at hr
  obtain ⟨i, hi⟩ : ∃ i, ofL (Lib.itoa n) = i := ⟨_, rfl⟩
  rw [hi] at hr hz
  have hz3 : (i ++ ⟨#[58]⟩ ++ seed).size ≤ 1000000000 := by
    rw [ByteArray.size_append, ByteArray.size_append]
    have : (⟨#[58]⟩ : ByteArray).size = 1 := rfl
    omega
  have hz4 := txtS_size (i ++ ⟨#[58]⟩ ++ seed)
  obtain ⟨t, ht⟩ : ∃ t, txtS (i ++ ⟨#[58]⟩ ++ seed) = t := ⟨_, rfl⟩
  rw [ht] at hr hz4
  have HI := Lib.hid hi
  have HT := Lib.hid ht
  subst hr
  have HZ3 := Lib.hid hz3
  clear hi ht hz3
  go_enter Tryd.func20, Tryd.ntmps20
  go_wp2_with fail
  refine (rint_k n i _ h0 h1 HI.out).mono ?_
  rintro e w1 ⟨rfl, hb⟩
  have HB := Lib.hid hb
  clear hb
  go_wp2_with fail
  refine (rtext_k _ t _ HZ3.out HT.out).mono ?_
  rintro e w' ⟨rfl, rfl⟩
  go_wp2_with fail
  go_ret
  exact ⟨rfl, HB.out⟩
end Go.Proofs.YtbogmmdmfbcbnaaDoor
