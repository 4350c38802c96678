/-
  Contracts of Rebase in the program and in the specification. Condition: at most 1000000 bytes.
-/
import Derived.Test.YtdjhhofmlefaaaaDoorNamZ
set_option linter.unusedVariables false
set_option linter.unusedSimpArgs false
set_option linter.unnecessarySimpa false
namespace Go.Proofs.YtdjhhofmlefaaaaDoor
open Go.RowKit Go.PlainAid

theorem reb_form {s a b : ByteArray} : (normB s = false ∨ normB a = false ∨ normB b = false → rebE s a b = 4 ∧ rebV s a b = ByteArray.empty) ∧
    (normB s = true → normB a = true → normB b = true → sufB (compsV a) (compsV s) = false → rebE s a b = 6 ∧ rebV s a b = ByteArray.empty) ∧
    (normB s = true → normB a = true → normB b = true → sufB (compsV a) (compsV s) = true → rebE s a b = fmtE ((compsV s).take ((compsV s).length - (compsV a).length) ++ compsV b) ∧ rebV s a b = fmtV ((compsV s).take ((compsV s).length - (compsV a).length) ++ compsV b)) := by
  unfold rebE rebV underB keptV
  refine ⟨?_, fun h1 h2 h3 h4 => ?_, fun h1 h2 h3 h4 => ?_⟩
  · rintro (h | h | h) <;> (rw [h]; simp)
  · rw [h1, h2, h3, h4]; exact ⟨rfl, rfl⟩
  · rw [h1, h2, h3, h4]; exact ⟨rfl, rfl⟩
theorem own_new0 (w : World) : (w.alloc (.cells #[] 36)).ownsRow w.heap.size 36 2 (.slice (some ⟨w.heap.size, 0, none⟩) 0 0) 0 [] :=
  ⟨rfl, .inr ⟨w.heap.size, 0, #[], rfl, Nat.le_refl _, heap_alloc_new w _, Nat.le_refl _, Nat.zero_le _, rfl, rfl⟩⟩
theorem pairs_over {w w' : World} {ao : Option Addr} {n cap : Nat} {ps : List Pr} (h : PairsAt w ao n cap ps) (hb : Below w.heap.size w w') : PairsAt w' ao n cap ps := h.below hb
theorem own_plain {w : World} {base n cap size : Nat} {e : TypeId} {ao : Option Addr} {xs : List Value} (h : w.ownsRow base e size (.slice ao n cap) n xs) : ∀ ad, ao = some ad → ad.spot = none := fun ad e0 => by
  subst e0
  rcases h.2 with ⟨h1, _⟩ | ⟨g, c2, cur, h1, _⟩
  · injection h1 with a; cases a
  · injection h1 with a; cases a; rfl
theorem own_fit {w : World} {base n cap size : Nat} {e : TypeId} {ao : Option Addr} {xs : List Value} (h : w.ownsRow base e size (.slice ao n cap) n xs) : n ≤ cap := by
  rcases h.2 with ⟨h1, h2⟩ | ⟨g, c2, cur, h1, _, _, h4, _⟩
  · omega
  · injection h1 with a b c; omega

set_option maxRecDepth 100000 in
set_option maxHeartbeats 8000000 in
theorem rebase_s (s a b : ByteArray) (w : World) (hs : s.size ≤ 1000000) (ha : a.size ≤ 1000000) (hb : b.size ≤ 1000000) :
    Calls Tryd.prog 32 #[.string s, .string a, .string b] w fun e w' => e = .returned (.tuple #[.string (rebV s a b), .int .i64 (rebE s a b)]) ∧ Below w.heap.size w w' := by
  have h8 := compsV_few s
  have h9 := compsV_few a
  have h10 := compsV_few b
  have HSM := Lib.hid (small_app (small_take (small_comps s) ((compsV s).length - (compsV a).length)) (small_comps b) (by rw [List.length_take]; omega))
  have HR := Lib.hid (@reb_form s a b)
  have HU := Lib.hid (show underB s a = (normB s && normB a && sufB (compsV a) (compsV s)) from rfl)
  go_enter Tryd.func32, Tryd.ntmps32
  go_wp2_with fail
  refine (components_s s _ hs).mono ?_
  rintro e w1 ⟨v, rfl, hown, hb1⟩
  obtain ⟨ao, cap, rfl, hat⟩ := pairs_own hown rfl
  have hnc := own_none hown
  have hpl := own_plain hown
  have hfit := own_fit hown
  go_wp2_with fail
  refine (components_s a _ ha).mono ?_
  rintro e w2 ⟨v, rfl, hown2, hb2⟩
  obtain ⟨bo, dap, rfl, hat2⟩ := pairs_own hown2 rfl
  have L2 := below_next hb1 hb2
  go_wp2_with fail
  refine (components_s b _ hb).mono ?_
  rintro e w3 ⟨v, rfl, hown3, hb3⟩
  obtain ⟨co, fap, rfl, hat3⟩ := pairs_own hown3 rfl
  have hnc3 := own_none hown3
  have L3 := below_next L2 hb3
  have HA := Lib.hid ((hat.below hb2).below hb3)
  have HA2 := Lib.hid (hat2.below hb3)
  have HA3 := Lib.hid hat3
  clear hown hown2 hown3 hat hat2 hat3 hb1 hb2 hb3
  obtain ⟨l, hl⟩ : ∃ l, compsV s = l := ⟨_, rfl⟩
  obtain ⟨m, hm⟩ : ∃ m, compsV a = m := ⟨_, rfl⟩
  obtain ⟨q, hq⟩ : ∃ q, compsV b = q := ⟨_, rfl⟩
  rw [hl] at h8 HSM HR HU HA hfit ⊢
  rw [hm] at h9 HSM HR HU HA2 ⊢
  rw [hq] at h10 HSM HR HA3 ⊢
  clear hl hm hq
  cases c1 : normB s
  · have HF := Lib.hid (HR.out.1 (.inl c1))
    clear c1 HR HU
    generalize normB a = x1
    generalize normB b = x2
    go_wp2
    go_ret2
    exact ⟨by rw [HF.out.1, HF.out.2]; rfl, L3⟩
  cases c2 : normB a
  · have HF := Lib.hid (HR.out.1 (.inr (.inl c2)))
    clear c1 c2 HR HU
    generalize normB b = x2
    go_wp2
    go_ret2
    exact ⟨by rw [HF.out.1, HF.out.2]; rfl, L3⟩
  cases c3 : normB b
  · have HF := Lib.hid (HR.out.1 (.inr (.inr c3)))
    clear c1 c2 c3 HR HU
    go_wp2
    go_ret2
    exact ⟨by rw [HF.out.1, HF.out.2]; rfl, L3⟩
  have HR2 := Lib.hid (And.intro (HR.out.2.1 c1 c2 c3) (HR.out.2.2 c1 c2 c3))
  rw [c1, c2] at HU
  have HU2 := Lib.hid (show underB s a = sufB m l from HU.out)
  clear c1 c2 c3 HR HU
  go_wp2_with fail
  refine (shared_s ao bo l.length cap m.length dap l m _ HA.out HA2.out (by omega) (by omega)).mono ?_
  rintro e w4 ⟨k, rfl, hk, hb4⟩
  have L4 := below_next L3 hb4
  have HB := Lib.hid (HA.out.below hb4)
  have HB3 := Lib.hid (HA3.out.below hb4)
  have hkl := hk.le
  have HSU := Lib.hid hk.suf
  clear hk hb4
  cases c : sufB m l
  · have HF := Lib.hid (HR2.out.1 c)
    have hlt : k < m.length := by
      have := HSU.out
      rw [c] at this
      have := of_decide_eq_false this.symm
      omega
    have d1 : decide ((k : Int) < (m.length : Int)) = true := decide_eq_true (by omega)
    clear c
    go_wp2
    go_ret2
    exact ⟨by rw [HF.out.1, HF.out.2]; rfl, L4⟩
  · have HF := Lib.hid (HR2.out.2 c)
    have hke : ¬ k < m.length := by
      have := HSU.out
      rw [c] at this
      have := of_decide_eq_true this.symm
      omega
    have d1 : decide ((k : Int) < (m.length : Int)) = false := decide_eq_false (by omega)
    obtain ⟨r, hr⟩ : ∃ r, l.length - m.length = r := ⟨_, rfl⟩
    have hrr : (l.length : Int) - (m.length : Int) = (r : Int) := by omega
    have hrl : r ≤ l.length := by omega
    have r0 : (0 : Int) ≤ (r : Int) := by omega
    have r1 : (r : Int) ≤ (cap : Int) := by omega
    have hcap := HB.out.2.2.1
    unfold maxLen at hcap
    rw [hr] at HF HSM
    have HT := Lib.hid (HB.out.head r hrl r (Nat.le_refl _) (by omega))
    have hn0 : ao = none → r = 0 := fun e => by have := hnc e; omega
    obtain ⟨kl, hkl2⟩ : ∃ kl, l.take r = kl := ⟨_, rfl⟩
    rw [hkl2] at HF HT HSM
    clear c hr hkl2
    go_wp2_with (at_builtin; refine app_onto w4 (.tmp 56) (.tmp 57) ao co r q.length fap kl q ?_ ?_ ?_ ?_ ?_ ?_ ?_ ?_ ?_ ?_ ?_; exact rfl; exact rfl; exact rfl; exact rfl; exact HT.out; exact hn0; exact hpl; exact HB3.out; exact hnc3; omega; intro xo eap w5 hat5 hb5)
    have L5 := below_next L4 hb5
    have HN := Lib.hid hat5
    clear hat5
    go_wp2_with fail
    refine (format_s xo _ eap (kl ++ q) _ HN.out HSM.out).mono ?_
    rintro e w6 ⟨rfl, hb6⟩
    go_wp2
    go_ret2
    exact ⟨by rw [HF.out.1, HF.out.2]; rfl, below_next L5 hb6⟩

set_option maxRecDepth 100000 in
set_option maxHeartbeats 8000000 in
theorem rrebase_s (s a b : ByteArray) (w : World) (hs : s.size ≤ 1000000) (ha : a.size ≤ 1000000) (hb : b.size ≤ 1000000) :
    Calls Tryd.prog 33 #[.string s, .string a, .string b] w fun e w' => e = .returned (.tuple #[.string (rebV s a b), .int .i64 (rebE s a b)]) ∧ Below w.heap.size w w' := by
  have h8 := compsV_few s
  have h9 := compsV_few a
  have h10 := compsV_few b
  have HSM := Lib.hid (small_app (small_take (small_comps s) ((compsV s).length - (compsV a).length)) (small_comps b) (by rw [List.length_take]; omega))
  have HR := Lib.hid (@reb_form s a b)
  have HU := Lib.hid (show underB s a = (normB s && normB a && sufB (compsV a) (compsV s)) from rfl)
  go_enter Tryd.func33, Tryd.ntmps33
  go_wp2_with fail
  refine (rparts_s s _ hs).mono ?_
  rintro e w1 ⟨v, rfl, hown, hb1⟩
  obtain ⟨ao, cap, rfl, hat⟩ := pairs_own hown rfl
  have hnc := own_none hown
  have hpl := own_plain hown
  have hfit := own_fit hown
  go_wp2_with fail
  refine (rparts_s a _ ha).mono ?_
  rintro e w2 ⟨v, rfl, hown2, hb2⟩
  obtain ⟨bo, dap, rfl, hat2⟩ := pairs_own hown2 rfl
  have L2 := below_next hb1 hb2
  go_wp2_with fail
  refine (rparts_s b _ hb).mono ?_
  rintro e w3 ⟨v, rfl, hown3, hb3⟩
  obtain ⟨co, fap, rfl, hat3⟩ := pairs_own hown3 rfl
  have hnc3 := own_none hown3
  have L3 := below_next L2 hb3
  have HA := Lib.hid ((hat.below hb2).below hb3)
  have HA2 := Lib.hid (hat2.below hb3)
  have HA3 := Lib.hid hat3
  clear hown hown2 hown3 hat hat2 hat3 hb1 hb2 hb3
  obtain ⟨l, hl⟩ : ∃ l, compsV s = l := ⟨_, rfl⟩
  obtain ⟨m, hm⟩ : ∃ m, compsV a = m := ⟨_, rfl⟩
  obtain ⟨q, hq⟩ : ∃ q, compsV b = q := ⟨_, rfl⟩
  rw [hl] at h8 HSM HR HU HA hfit ⊢
  rw [hm] at h9 HSM HR HU HA2 ⊢
  rw [hq] at h10 HSM HR HA3 ⊢
  clear hl hm hq
  cases c1 : normB s
  · have HF := Lib.hid (HR.out.1 (.inl c1))
    clear c1 HR HU
    generalize normB a = x1
    generalize normB b = x2
    go_wp2
    go_ret2
    exact ⟨by rw [HF.out.1, HF.out.2]; rfl, L3⟩
  cases c2 : normB a
  · have HF := Lib.hid (HR.out.1 (.inr (.inl c2)))
    clear c1 c2 HR HU
    generalize normB b = x2
    go_wp2
    go_ret2
    exact ⟨by rw [HF.out.1, HF.out.2]; rfl, L3⟩
  cases c3 : normB b
  · have HF := Lib.hid (HR.out.1 (.inr (.inr c3)))
    clear c1 c2 c3 HR HU
    go_wp2
    go_ret2
    exact ⟨by rw [HF.out.1, HF.out.2]; rfl, L3⟩
  have HR2 := Lib.hid (And.intro (HR.out.2.1 c1 c2 c3) (HR.out.2.2 c1 c2 c3))
  rw [c1, c2] at HU
  have HU2 := Lib.hid (show underB s a = sufB m l from HU.out)
  clear c1 c2 c3 HR HU
  go_wp2_with fail
  refine (runder_s s a _ hs ha).mono ?_
  rintro e w4 ⟨rfl, hb4⟩
  rw [HU2.out]
  have L4 := below_next L3 hb4
  have HB := Lib.hid (HA.out.below hb4)
  have HB2 := Lib.hid (HA2.out.below hb4)
  have HB3 := Lib.hid (HA3.out.below hb4)
  clear hb4
  cases c : sufB m l
  · have HF := Lib.hid (HR2.out.1 c)
    clear c
    go_wp2
    go_ret2
    exact ⟨by rw [HF.out.1, HF.out.2]; rfl, L4⟩
  · have HF := Lib.hid (HR2.out.2 c)
    have hle : m.length ≤ l.length := by obtain ⟨k, hk⟩ := (sufB_iff _ _).1 c; rw [hk, List.length_append]; omega
    obtain ⟨r, hr⟩ : ∃ r, l.length - m.length = r := ⟨_, rfl⟩
    have hrr : (l.length : Int) - (m.length : Int) = (r : Int) := by omega
    have hrl : r ≤ l.length := by omega
    have r0 : (0 : Int) ≤ (r : Int) := by omega
    have r1 : (r : Int) ≤ (cap : Int) := by omega
    have hcap := HB.out.2.2.1
    unfold maxLen at hcap
    rw [hr] at HF HSM
    have HT := Lib.hid (HB.out.head r hrl cap (by omega) (Nat.le_refl _))
    obtain ⟨kl, hkl2⟩ : ∃ kl, l.take r = kl := ⟨_, rfl⟩
    have hkll : kl.length = r := by rw [← hkl2, List.length_take]; omega
    rw [hkl2] at HF HT HSM
    clear c hr hkl2
    have own0 := own_new0 w4
    have B0 := below_new (w := w4) (.cells #[] 36)
    have HT1 := Lib.hid (HT.out.below B0)
    have HQ1 := Lib.hid (HB3.out.below B0)
    have HS0 := Lib.hid B0.size
    go_wp2_with (first
      | (at_builtin; refine app_pairs _ own0 (.tmp 43) (.tmp 50) ao r cap kl ?_ ?_ ?_ ?_ ?_ ?_ ?_ ?_ ?_; exact rfl; exact rfl; exact rfl; exact rfl; exact HT1.out; exact hnc; omega; exact HS0.out; intro v5 w5 own5 hb5; have HS5 := Lib.hid (Nat.le_trans HS0.out hb5.size); have HQ5 := Lib.hid (pairs_over HB3.out (B0.trans hb5)))
      | (at_builtin; refine app_pairs _ own5 (.tmp 51) (.tmp 52) co q.length fap q ?_ ?_ ?_ ?_ ?_ ?_ ?_ ?_ ?_; exact rfl; exact rfl; exact rfl; exact rfl; exact HQ5.out; exact hnc3; omega; exact HS5.out; intro v6 w6 own6 hb6))
    obtain ⟨xo, eap, rfl, hat⟩ := pairs_own (l := kl ++ q) (by rw [pcells_append]; rw [Nat.zero_add, List.nil_append] at own6; exact own6) (by rw [List.length_append, hkll])
    have L6 := below_next L4 (B0.trans (hb5.trans hb6))
    have HN := Lib.hid hat
    clear hat
    go_wp2_with fail
    refine (rformat_s xo _ eap (kl ++ q) _ HN.out HSM.out).mono ?_
    rintro e w7 ⟨rfl, hb7⟩
    go_wp2
    go_ret2
    exact ⟨by rw [HF.out.1, HF.out.2]; rfl, below_next L6 hb7⟩

end Go.Proofs.YtdjhhofmlefaaaaDoor
