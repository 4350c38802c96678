/-
  Contracts of the specification's Common and Minus, of slices.Grow and Concat at strings, of the program's Common and Minus. Condition: lists of at most 5000 strings of at most 1000000 bytes, together where both are covered.
-/
import Derived.Test.YtminodinhbcgnaaDoorScoI
import Derived.Lib.AppendZeros
set_option maxRecDepth 100000
set_option linter.unusedVariables false
set_option linter.unusedSimpArgs false
set_option linter.unnecessarySimpa false
namespace Go.Proofs.YtminodinhbcgnaaDoor
open Go.RowKit Go.PlainAid Go.Maps Go.ChangeShapes Go.WideShapes Go.ChangeAt

theorem flt_take {f : ByteArray → Bool} {l : List ByteArray} {k : Nat} (h : k < l.length) : (l.take (k + 1)).filter f = if f (partAt l k) = true then (l.take k).filter f ++ [partAt l k] else (l.take k).filter f := by
  rw [take_snoc l k h, List.filter_append]
  cases e : f (partAt l k) <;> simp [e]
theorem flt_len (f : ByteArray → Bool) (l : List ByteArray) (k : Nat) : ((l.take k).filter f).length ≤ k := by
  have h1 := List.length_filter_le f (l.take k)
  rw [List.length_take] at h1
  omega
theorem sms_flt {l : List ByteArray} (h : SmS l) (f : ByteArray → Bool) : SmS (l.filter f) := by
  refine ⟨Nat.le_trans (List.length_filter_le _ _) h.1, fun j hj => ?_⟩
  have hm := part_mem (l.filter f) j hj
  exact sms_in h (List.mem_filter.1 hm).1
theorem sms_app {a b : List ByteArray} (h : SmS a) (k : SmS b) (hl : a.length + b.length ≤ 5000) : SmS (a ++ b) := by
  refine ⟨by rw [List.length_append]; exact hl, fun j hj => ?_⟩
  rcases List.mem_append.1 (part_mem (a ++ b) j hj) with hm | hm
  · exact sms_in h hm
  · exact sms_in k hm
set_option maxHeartbeats 8000000 in
theorem rminus_k (ao bo : Option Addr) (n m cap dap : Nat) (a l L : List ByteArray) (w : World) (ha : StrsAt w ao n cap a) (hb : StrsAt w bo m dap l) (sa : SmS a) (sb : SmS l) (hL : mns a l = L) :
    Calls Tryd.prog 28 #[.slice ao n cap, .slice bo m dap] w fun e w' => ∃ v, e = .returned v ∧ w'.ownsRow w.heap.size 9 1 v L.length (scells L) ∧ Below w.heap.size w w' := by
  obtain ⟨h1, h2, h3, h4⟩ := ha
  subst h1
  unfold maxLen at h3
  have H4 := Lib.hid h4; clear h4
  have HL := Lib.hid hL; clear hL
  have HSa := Lib.hid sa.2
  have HSm := Lib.hid sa
  have hla := sa.1
  have HCa := Lib.hid (fun W (hW : Below w.heap.size w W) s y hz hy => rcovers_k bo m dap l s y W (StrsAt.below hb hW) sb hz hy)
  clear hb sb sa
  go_enter Tryd.func28, Tryd.ntmps28
  go_wp2_with fail
  go_loopw [5, 6] (fun lv i wr => ∃ (k : Nat) (q : List ByteArray), k ≤ a.length ∧ i = .int .i64 k ∧ Hid ((a.take k).filter (covN l) = q) ∧ q.length ≤ 5000 + k ∧ w.heap.size ≤ wr.heap.size ∧ Hid (wr.ownsRow w.heap.size 9 1 lv q.length (scells q)) ∧ Hid (Below w.heap.size w wr)) (fun _ i _ => a.length - (intOf i).toNat)
  case atStart => exact ⟨0, [], Nat.zero_le _, rfl, Lib.hid (by simp), Nat.zero_le _, Nat.le_refl _, Lib.hid (World.ownsRow_nil _ _ _ _), Lib.hid (Below.refl _ _)⟩
  case round =>
    obtain ⟨k, q, hk, rfl, HK, hol, hzr, HO, HB⟩ := hrel
    by_cases hlt : k < a.length
    · obtain ⟨b, off, rfl, hs⟩ := H4.out (by omega)
      have hcell := (hs.below HB.out hs.1).2 k hlt
      have hbl := hs.1
      clear hs
      obtain ⟨p, hpe⟩ : ∃ p, p = partAt a k := ⟨_, rfl⟩
      rw [← hpe] at hcell
      have hzp : p.size ≤ 1000000 := by rw [hpe]; exact HSa.out k hlt
      have HF := Lib.hid (flt_take (f := covN l) hlt)
      rw [← hpe] at HF
      clear hpe
      have d1 : (k : Int) < (a.length : Int) := by omega
      obtain ⟨y, hy⟩ : ∃ x, cov l p = x := ⟨_, rfl⟩
      have HC := Lib.hid (HCa.out wr HB.out p y hzp hy)
      cases y with
      | true =>
        have HX := Lib.hid (show (a.take (k + 1)).filter (covN l) = q by rw [HF.out, if_neg (by unfold covN; rw [hy]; simp)]; exact HK.out)
        clear hy
        go_wp2_with fail
        refine HC.out.mono ?_
        rintro e w2 ⟨rfl, rfl⟩
        go_wp2_with fail
        go_roundw
        case rel => exact ⟨k + 1, q, by omega, by go_num, HX, by omega, hzr, HO, HB⟩
        case measure => simp [intOf]; omega
      | false =>
        have HX := Lib.hid (show (a.take (k + 1)).filter (covN l) = q ++ [p] by rw [HF.out, if_pos (by unfold covN; rw [hy]; rfl), HK.out])
        have HCe := Lib.hid (scells_snoc q p)
        clear hy
        go_wp2_with fail
        refine HC.out.mono ?_
        rintro e w2 ⟨rfl, rfl⟩
        go_wp2_with (at_builtin; go_must (refine push_str _ HO.out (.tmp 20) (.tmp 25) p ?_ ?_ ?_ ?_ ?_ ?_ ?_; exact rfl; exact rfl; exact rfl; exact rfl; omega; exact hzr; intro v3 w3 hown3 hb3))
        go_roundw
        case rel => exact ⟨k + 1, q ++ [p], by omega, by go_num, HX, by simp; omega, Nat.le_trans hzr hb3.size, Lib.hid (by rw [HCe.out, List.length_append]; exact hown3), Lib.hid (HB.out.trans hb3)⟩
        case measure => simp [intOf]; omega
    · have hke : k = a.length := by omega
      have d1 : ¬ (k : Int) < (a.length : Int) := by omega
      obtain ⟨oa, oc, hov, hoat⟩ := strs_own HO.out rfl
      rw [hov]
      have HE := Lib.hid (show a.filter (covN l) = q by rw [← HK.out, hke, List.take_length])
      have HR := Lib.hid (rsorted_k oa q.length oc q L wr hoat (by rw [← HE.out]; exact sms_flt HSm.out _) (by rw [← HE.out]; exact HL.out))
      clear hke hov hoat
      go_wp2_with fail
      refine HR.out.mono ?_
      rintro e w5 ⟨v5, rfl, hown5, hb5⟩
      have HO5 := Lib.hid (row_mono hown5 hzr)
      have HB5 := Lib.hid (HB.out.trans (hb5.mono hzr))
      clear hown5 hb5
      go_wp2_with fail
      go_ret
      exact ⟨_, rfl, HO5.out, HB5.out⟩
set_option maxHeartbeats 16000000 in
theorem rcommon_k (ao bo : Option Addr) (n m cap dap : Nat) (a l L : List ByteArray) (w : World) (ha : StrsAt w ao n cap a) (hb : StrsAt w bo m dap l) (sa : SmS a) (sb : SmS l) (hal : a.length + l.length ≤ 5000) (hL : cmn a l = L) :
    Calls Tryd.prog 26 #[.slice ao n cap, .slice bo m dap] w fun e w' => ∃ v, e = .returned v ∧ w'.ownsRow w.heap.size 9 1 v L.length (scells L) ∧ Below w.heap.size w w' := by
  have HCb := Lib.hid (fun W (hW : Below w.heap.size w W) s y hz hy => rcovers_k ao n cap a s y W (StrsAt.below ha hW) sa hz hy)
  obtain ⟨h1, h2, h3, h4⟩ := ha
  subst h1
  unfold maxLen at h3
  have H4 := Lib.hid h4; clear h4
  have HL := Lib.hid hL; clear hL
  have HSa := Lib.hid sa.2
  have HSm := Lib.hid sa
  have hla := sa.1
  have HCa := Lib.hid (fun W (hW : Below w.heap.size w W) s y hz hy => rcovers_k bo m dap l s y W (StrsAt.below hb hW) sb hz hy)
  obtain ⟨g1, g2, g3, g4⟩ := hb
  subst g1
  unfold maxLen at g3
  have G4 := Lib.hid g4; clear g4
  have HSb := Lib.hid sb.2
  have HSn := Lib.hid sb
  have hlb := sb.1
  clear sb sa
  go_enter Tryd.func26, Tryd.ntmps26
  go_wp2_with fail
  go_loopw [5, 6] (fun lv i wr => ∃ (k : Nat) (q : List ByteArray), k ≤ a.length ∧ i = .int .i64 k ∧ Hid ((a.take k).filter (cov l) = q) ∧ q.length ≤ 5000 + k ∧ w.heap.size ≤ wr.heap.size ∧ Hid (wr.ownsRow w.heap.size 9 1 lv q.length (scells q)) ∧ Hid (Below w.heap.size w wr)) (fun _ i _ => a.length - (intOf i).toNat)
  case atStart => exact ⟨0, [], Nat.zero_le _, rfl, Lib.hid (by simp), Nat.zero_le _, Nat.le_refl _, Lib.hid (World.ownsRow_nil _ _ _ _), Lib.hid (Below.refl _ _)⟩
  case round =>
    obtain ⟨k, q, hk, rfl, HK, hol, hzr, HO, HB⟩ := hrel
    by_cases hlt : k < a.length
    · obtain ⟨b, off, rfl, hs⟩ := H4.out (by omega)
      have hcell := (hs.below HB.out hs.1).2 k hlt
      have hbl := hs.1
      clear hs
      obtain ⟨p, hpe⟩ : ∃ p, p = partAt a k := ⟨_, rfl⟩
      rw [← hpe] at hcell
      have hzp : p.size ≤ 1000000 := by rw [hpe]; exact HSa.out k hlt
      have HF := Lib.hid (flt_take (f := cov l) hlt)
      rw [← hpe] at HF
      clear hpe
      have d1 : (k : Int) < (a.length : Int) := by omega
      obtain ⟨y, hy⟩ : ∃ x, cov l p = x := ⟨_, rfl⟩
      have HC := Lib.hid (HCa.out wr HB.out p y hzp hy)
      cases y with
      | false =>
        have HX := Lib.hid (show (a.take (k + 1)).filter (cov l) = q by rw [HF.out, if_neg (by rw [hy]; simp)]; exact HK.out)
        clear hy
        go_wp2_with fail
        refine HC.out.mono ?_
        rintro e w2 ⟨rfl, rfl⟩
        go_wp2_with fail
        go_roundw
        case rel => exact ⟨k + 1, q, by omega, by go_num, HX, by omega, hzr, HO, HB⟩
        case measure => simp [intOf]; omega
      | true =>
        have HX := Lib.hid (show (a.take (k + 1)).filter (cov l) = q ++ [p] by rw [HF.out, if_pos (by rw [hy]), HK.out])
        have HCe := Lib.hid (scells_snoc q p)
        clear hy
        go_wp2_with fail
        refine HC.out.mono ?_
        rintro e w2 ⟨rfl, rfl⟩
        go_wp2_with (at_builtin; go_must (refine push_str _ HO.out (.tmp 20) (.tmp 25) p ?_ ?_ ?_ ?_ ?_ ?_ ?_; exact rfl; exact rfl; exact rfl; exact rfl; omega; exact hzr; intro v3 w3 hown3 hb3))
        go_roundw
        case rel => exact ⟨k + 1, q ++ [p], by omega, by go_num, HX, by simp; omega, Nat.le_trans hzr hb3.size, Lib.hid (by rw [HCe.out, List.length_append]; exact hown3), Lib.hid (HB.out.trans hb3)⟩
        case measure => simp [intOf]; omega
    · have hke : k = a.length := by omega
      have d1 : ¬ (k : Int) < (a.length : Int) := by omega
      have HE := Lib.hid (show a.filter (cov l) = q by rw [← HK.out, hke, List.take_length])
      have hql : q.length ≤ a.length := by rw [← HE.out]; exact List.length_filter_le _ _
      clear hke
      go_wp2_with fail
      obtain ⟨P, hP⟩ : ∃ P, P = q := ⟨_, rfl⟩
      rw [← hP] at HO HE hql
      clear hP
      have HO0 := HO
      have HB0 := HB
      have hz0 := hzr
      clear HO HB hzr HK hol
      go_loopw [5, 7] (fun lv i wr => ∃ (k : Nat) (q : List ByteArray), k ≤ l.length ∧ i = .int .i64 k ∧ Hid (P ++ (l.take k).filter (cov a) = q) ∧ q.length ≤ 5000 + k ∧ w.heap.size ≤ wr.heap.size ∧ Hid (wr.ownsRow w.heap.size 9 1 lv q.length (scells q)) ∧ Hid (Below w.heap.size w wr)) (fun _ i _ => l.length - (intOf i).toNat)
      case atStart => exact ⟨0, P, Nat.zero_le _, rfl, Lib.hid (by simp), by omega, hz0, HO0, HB0⟩
      case round =>
        obtain ⟨k, q, hk, rfl, HK, hol, hzr, HO, HB⟩ := hrel
        by_cases hlt : k < l.length
        · obtain ⟨b, off, rfl, hs⟩ := G4.out (by omega)
          have hcell := (hs.below HB.out hs.1).2 k hlt
          have hbl := hs.1
          clear hs
          obtain ⟨p, hpe⟩ : ∃ p, p = partAt l k := ⟨_, rfl⟩
          rw [← hpe] at hcell
          have hzp : p.size ≤ 1000000 := by rw [hpe]; exact HSb.out k hlt
          have HF := Lib.hid (flt_take (f := cov a) hlt)
          rw [← hpe] at HF
          clear hpe
          have d1 : (k : Int) < (l.length : Int) := by omega
          obtain ⟨y, hy⟩ : ∃ x, cov a p = x := ⟨_, rfl⟩
          have HC := Lib.hid (HCb.out wr HB.out p y hzp hy)
          cases y with
          | false =>
            have HX := Lib.hid (show P ++ (l.take (k + 1)).filter (cov a) = q by rw [HF.out, if_neg (by rw [hy]; simp)]; exact HK.out)
            clear hy
            go_wp2_with fail
            refine HC.out.mono ?_
            rintro e w2 ⟨rfl, rfl⟩
            go_wp2_with fail
            go_roundw
            case rel => exact ⟨k + 1, q, by omega, by go_num, HX, by omega, hzr, HO, HB⟩
            case measure => simp [intOf]; omega
          | true =>
            have HX := Lib.hid (show P ++ (l.take (k + 1)).filter (cov a) = q ++ [p] by rw [HF.out, if_pos (by rw [hy]), ← List.append_assoc, HK.out])
            have HCe := Lib.hid (scells_snoc q p)
            clear hy
            go_wp2_with fail
            refine HC.out.mono ?_
            rintro e w2 ⟨rfl, rfl⟩
            go_wp2_with (at_builtin; go_must (refine push_str _ HO.out (.tmp 39) (.tmp 44) p ?_ ?_ ?_ ?_ ?_ ?_ ?_; exact rfl; exact rfl; exact rfl; exact rfl; omega; exact hzr; intro v3 w3 hown3 hb3))
            go_roundw
            case rel => exact ⟨k + 1, q ++ [p], by omega, by go_num, HX, by simp; omega, Nat.le_trans hzr hb3.size, Lib.hid (by rw [HCe.out, List.length_append]; exact hown3), Lib.hid (HB.out.trans hb3)⟩
            case measure => simp [intOf]; omega
        · have hke : k = l.length := by omega
          have d1 : ¬ (k : Int) < (l.length : Int) := by omega
          obtain ⟨oa, oc, hov, hoat⟩ := strs_own HO.out rfl
          rw [hov]
          have HE2 := Lib.hid (show a.filter (cov l) ++ l.filter (cov a) = q by rw [← HK.out, hke, List.take_length, HE.out])
          have HR := Lib.hid (rsorted_k oa q.length oc q L wr hoat (by rw [← HE2.out]; exact sms_app (sms_flt HSm.out _) (sms_flt HSn.out _) (by have h1 := List.length_filter_le (cov l) a; have h2 := List.length_filter_le (cov a) l; omega)) (by rw [← HE2.out]; exact HL.out))
          clear hke hov hoat
          go_wp2_with fail
          refine HR.out.mono ?_
          rintro e w5 ⟨v5, rfl, hown5, hb5⟩
          have HO5 := Lib.hid (row_mono hown5 hzr)
          have HB5 := Lib.hid (HB.out.trans (hb5.mono hzr))
          clear hown5 hb5
          go_wp2_with fail
          go_ret
          exact ⟨_, rfl, HO5.out, HB5.out⟩


/-! ### slices.Grow, Concat; Common, Minus of the program -/
theorem app_strs_nil {ops : Array Oper} {rest : List Oper} {o : Oper} {a : Act} {Q : Exit → Act → World → Prop} (wr : World) {base : Nat} {v : Value} {n : Nat} {xs : List Value} (hown : wr.ownsRow base 9 1 v n xs) (s x : Operand)
    (hgd : o.guard = none) (ho : o.op = .call { callee := .builtin .append, args := #[s, x], argTypes := #[22, 22] })
    (hs : a.eval s = v) (hx : a.eval x = .slice none 0 0) (h : wpList Tryd.prog ops Q rest (a.put o.dst v) wr) :
    wpList Tryd.prog ops Q (o :: rest) a wr := by
  obtain ⟨i0, hi, hz0, hz1, hz2⟩ := info_parts info_string
  exact wpList_append_own_none hgd s x 22 ho base 9 i0 1 Tryd.underlying22 hi v n xs hs hown hx h
theorem zeroS_size (k : Nat) : (Builtin.zeroCells (Value.string ⟨#[]⟩).cells k).size = k * 1 := by
  simp [Builtin.zeroCells, Value.cells]
theorem growS_run (w : World) (n : Nat) (h0 : 0 < n) (hn : n ≤ 1000000) : ∃ G W1, (∀ ty, (Builtin.append_ #[22, 3] ty #[.slice none 0 0, .int .i64 (n : Int)]).run Tryd.prog w = .ok (.slice (some ⟨w.heap.size, 0, none⟩) n G) W1) ∧
    n ≤ G ∧ G ≤ maxLen ∧ W1.ownsRow w.heap.size 9 1 (.slice (some ⟨w.heap.size, 0, none⟩) 0 G) 0 [] ∧ Below w.heap.size w W1 := by
  obtain ⟨i0, hi0, hz0, hz1, hz2⟩ := info_parts info_string
  have hrun := fun ty => Lib.run_append_nil_zeros w 22 3 ty 9 i0 _ .i64 .i64 Tryd.underlying22 Tryd.underlying3 hi0 hz0 n h0 (by rw [hz1]; decide) (by omega) (by rw [hz2]; omega)
  refine ⟨grownCap w n 0 9, _, hrun, grownCap_ge w _ _ _, grownCap_le_maxLen w _ _ _ (by unfold maxLen; omega), ?_, ((Below.refl _ w).drew).alloc (Nat.le_refl _) _⟩
  have hg := grownCap_ge w n 0 9
  exact World.ownsRow_made w.drew _ _ (Nat.le_refl _) (grownCap_le_maxLen w _ _ _ (by unfold maxLen; omega)) (by rw [Array.size_append, zeroS_size, zeroS_size]; omega)
set_option maxHeartbeats 4000000 in
theorem grow_k (n : Nat) (w : World) (hn : n ≤ 1000000) :
    Calls Tryd.prog 60 #[.slice none 0 0, .int .i64 n] w fun e w' => ∃ v, e = .returned v ∧ w'.ownsRow w.heap.size 9 1 v 0 [] ∧ Below w.heap.size w w' := by
  rcases Nat.eq_zero_or_pos n with h0 | h0
  · subst h0
    go_enter Tryd.func60, Tryd.ntmps60
    go_wp2
    go_ret
    exact ⟨_, rfl, World.ownsRow_nil _ _ _ _, Below.refl _ _⟩
  · obtain ⟨G, W1, hrun, hG1, hG2, hown, hb⟩ := growS_run w n h0 hn
    unfold maxLen at hG2
    have d0 : (0 : Int) < (n : Int) := by omega
    have d1 : ¬ (n : Int) < 0 := by omega
    have HR := Lib.hid hrun
    clear hrun
    go_enter Tryd.func60, Tryd.ntmps60
    go_wp2_with (at_builtin; refine Lib.wpList_append_run _ rfl _ _ _ _ rfl _ _ rfl rfl _ _ (HR.out _) ?_)
    go_ret
    exact ⟨_, rfl, hown, hb⟩
theorem strs_own2 {w : World} {base n : Nat} {v : Value} {l : List ByteArray} (h : w.ownsRow base 9 1 v n (scells l)) (hn : l.length = n) : ∃ ao cap, v = .slice ao n cap ∧ StrsAt w ao n cap l ∧ (ao = none → cap = 0) := by
  obtain ⟨ao, cap, rfl, hat⟩ := strs_own h hn
  refine ⟨ao, cap, rfl, hat, fun e => ?_⟩
  subst e
  rcases h.2 with ⟨h2, _⟩ | ⟨g, c, cur, h2, _⟩
  · injection h2
  · cases h2
/-- 'l = append(l, s...)' where l is the call's own, s whatever -/
theorem app_all {ops : Array Oper} {rest : List Oper} {o : Oper} {a : Act} {Q : Exit → Act → World → Prop} (wr : World) {base : Nat} {v : Value} {n : Nat} {xs : List Value} (hown : wr.ownsRow base 9 1 v n xs) (s x : Operand)
    (ao : Option Addr) (m c : Nat) (news : List ByteArray) (hgd : o.guard = none)
    (ho : o.op = .call { callee := .builtin .append, args := #[s, x], argTypes := #[22, 22] })
    (hs : a.eval s = v) (hx : a.eval x = .slice ao m c) (hw : StrsAt wr ao m c news) (hnn : ao = none → c = 0) (hn : n + m ≤ 1000000000) (hbase : base ≤ wr.heap.size)
    (h : ∀ v' w', w'.ownsRow base 9 1 v' (n + m) (xs ++ scells news) → Below base wr w' → wpList Tryd.prog ops Q rest (a.put o.dst v') w') :
    wpList Tryd.prog ops Q (o :: rest) a wr := by
  cases ao with
  | some ad => exact app_strs wr hown s x ad m c news hgd ho hs hx hw hn hbase h
  | none =>
    have hm : m = 0 := by
      rcases Nat.eq_zero_or_pos m with e | e
      · exact e
      · obtain ⟨_, _, e, _⟩ := hw.2.2.2 e; cases e
    have hc := hnn rfl
    have hl : news = [] := List.length_eq_zero_iff.1 (by rw [hw.1]; exact hm)
    subst hm hc hl
    exact app_strs_nil wr hown s x hgd ho hs hx (h v wr (by simpa [scells] using hown) (Below.refl _ _))
theorem scells_app (a b : List ByteArray) : scells (a ++ b) = scells a ++ scells b := by unfold scells; rw [List.map_append]
set_option maxHeartbeats 8000000 in
theorem concat_k (g : Nat) (ao bo : Option Addr) (n m cap dap : Nat) (l k : List ByteArray) (w : World) (hg : KbC w g (.cells #[.slice ao n cap, .slice bo m dap] 22)) (h : StrsAt w ao n cap l) (hk : StrsAt w bo m dap k) (hna : ao = none → cap = 0) (hnb : bo = none → dap = 0) (hn : n ≤ 10000) (hm : m ≤ 10000) :
    Calls Tryd.prog 42 #[.slice (some ⟨g, 0, none⟩) 2 2] w fun e w' => ∃ v, e = .returned v ∧ w'.ownsRow w.heap.size 9 1 v (n + m) (scells (l ++ k)) ∧ Below w.heap.size w w' := by
  have H := Lib.hid h
  have HK := Lib.hid hk
  have HG := Lib.hid hg
  have HNa := Lib.hid hna
  have HNb := Lib.hid hnb
  clear h hk hna hnb
  have c0 : w.cell? ⟨g, 0, none⟩ = some (.slice ao n cap) := hg.cell rfl
  have c1 : w.cell? ⟨g, 1, none⟩ = some (.slice bo m dap) := hg.cell rfl
  clear hg
  have e0 : ¬ (n : Int) < 0 := by omega
  have e1 : ¬ (n : Int) + (m : Int) < 0 := by omega
  have HGr := Lib.hid (fun (v : Int) (hv : v = ((n + m : Nat) : Int)) => show Calls Tryd.prog 60 #[.slice none 0 0, .int .i64 v] w _ from hv ▸ grow_k (n + m) w (by omega))
  go_enter Tryd.func42, Tryd.ntmps42
  go_wp2_with fail
  refine wp_loop_rounds 3 ?_
  rw [rounds_succ]
  go_wp2_with fail
  rw [rounds_succ]
  go_wp2_with fail
  rw [rounds_succ]
  go_wp2_with fail
  refine (HGr.out _ (by first | rfl | omega)).mono ?_
  rintro e w1 ⟨v, rfl, hown, hb⟩
  have HB1 := Lib.hid hb
  have HA1 := Lib.hid (H.out.below hb)
  have HK1 := Lib.hid (HK.out.below hb)
  have HG1 := Lib.hid (HG.out.step hb)
  have HO1 := Lib.hid hown
  clear hb hown c0 c1
  have c0 : w1.cell? ⟨g, 0, none⟩ = some (.slice ao n cap) := HG1.out.cell rfl
  have c1 : w1.cell? ⟨g, 1, none⟩ = some (.slice bo m dap) := HG1.out.cell rfl
  go_wp2_with fail
  refine wp_loop_rounds 3 ?_
  rw [rounds_succ]
  go_wp2_with (at_builtin; refine app_all w1 HO1.out (.tmp 31) (.tmp 32) ao n cap l ?_ ?_ ?_ ?_ ?_ ?_ ?_ ?_ ?_; exact rfl; exact rfl; exact rfl; exact rfl; exact HA1.out; exact HNa.out; omega; exact HB1.out.size; intro v2 w2 hown2 hb2)
  have HB2 := Lib.hid (HB1.out.trans hb2)
  have HO2 := Lib.hid hown2
  have HK2 := Lib.hid (HK.out.below HB2.out)
  have HG2 := Lib.hid (HG.out.step HB2.out)
  clear hb2 hown2 c0 c1
  have c1 : w2.cell? ⟨g, 1, none⟩ = some (.slice bo m dap) := HG2.out.cell rfl
  rw [rounds_succ]
  go_wp2_with (at_builtin; refine app_all w2 HO2.out (.tmp 31) (.tmp 32) bo m dap k ?_ ?_ ?_ ?_ ?_ ?_ ?_ ?_ ?_; exact rfl; exact rfl; exact rfl; exact rfl; exact HK2.out; exact HNb.out; omega; exact HB2.out.size; intro v3 w3 hown3 hb3)
  have HB3 := Lib.hid (HB2.out.trans hb3)
  have HO3 := Lib.hid (show w3.ownsRow w.heap.size 9 1 v3 (n + m) (scells (l ++ k)) by
    rw [scells_app]
    rw [List.nil_append] at hown3
    rw [Nat.zero_add] at hown3
    exact hown3)
  clear hb3 hown3 c1
  rw [rounds_succ]
  go_wp2_with fail
  go_ret
  exact ⟨_, rfl, HO3.out, HB3.out⟩
set_option maxHeartbeats 4000000 in
theorem minus_k (ao bo : Option Addr) (n m cap dap : Nat) (a b L : List ByteArray) (w : World) (ha : StrsAt w ao n cap a) (hb : StrsAt w bo m dap b) (sa : SmS a) (sb : SmS b) (ho : MaxOk w) (hL : mns a b = L) :
    Calls Tryd.prog 27 #[.slice ao n cap, .slice bo m dap] w fun e w' => ∃ v, e = .returned v ∧ w'.ownsRow w.heap.size 9 1 v L.length (scells L) ∧ Below w.heap.size w w' := by
  have HC := Lib.hid (chosen_k ao bo n m cap dap a b false _ _ w ha hb sa sb ho rfl (flt_covN a b))
  have HO := Lib.hid ho
  have HS := Lib.hid (sms_flt sa (covN b))
  have HL := Lib.hid hL
  clear ha hb sa sb ho hL
  go_enter Tryd.func27, Tryd.ntmps27
  go_wp2_with fail
  refine HC.out.mono ?_
  rintro e w1 ⟨v1, rfl, hown, hb1⟩
  have HB1 := Lib.hid hb1
  obtain ⟨ao1, cap1, rfl, hat⟩ := strs_own hown rfl
  have HR := Lib.hid (sorted_k ao1 _ cap1 _ L w1 hat HS.out (HO.out.step hb1) HL.out)
  have hz1 := hb1.size
  clear hown hb1 hat
  go_wp2_with fail
  refine HR.out.mono ?_
  rintro e w2 ⟨v2, rfl, hown2, hb2⟩
  have HO2 := Lib.hid (row_mono hown2 hz1)
  have HB2 := Lib.hid (HB1.out.trans (hb2.mono hz1))
  clear hown2 hb2
  go_wp2_with fail
  go_ret
  exact ⟨_, rfl, HO2.out, HB2.out⟩
set_option maxHeartbeats 8000000 in
theorem common_k (ao bo : Option Addr) (n m cap dap : Nat) (a b L : List ByteArray) (w : World) (ha : StrsAt w ao n cap a) (hb : StrsAt w bo m dap b) (sa : SmS a) (sb : SmS b) (hal : a.length + b.length ≤ 5000) (ho : MaxOk w) (hL : cmn a b = L) :
    Calls Tryd.prog 25 #[.slice ao n cap, .slice bo m dap] w fun e w' => ∃ v, e = .returned v ∧ w'.ownsRow w.heap.size 9 1 v L.length (scells L) ∧ Below w.heap.size w w' := by
  have HC := Lib.hid (chosen_k ao bo n m cap dap a b true _ _ w ha hb sa sb ho rfl (flt_cov a b))
  have HO := Lib.hid ho
  have HSa := Lib.hid (sms_flt sa (cov b))
  have HSb := Lib.hid (sms_flt sb (cov a))
  have HL := Lib.hid hL
  have HC2 := Lib.hid (fun W (hW : Below w.heap.size w W) => chosen_k bo ao m n dap cap b a true _ _ W (StrsAt.below hb hW) (StrsAt.below ha hW) sb sa (ho.step hW) rfl (flt_cov b a))
  have hla := List.length_filter_le (cov b) a
  have hlb := List.length_filter_le (cov a) b
  clear ha hb sa sb ho hL
  unfold cmn at HL
  obtain ⟨x, hx⟩ : ∃ x, a.filter (cov b) = x := ⟨_, rfl⟩
  obtain ⟨y, hy⟩ : ∃ x, b.filter (cov a) = x := ⟨_, rfl⟩
  rw [hx] at HSa HL HC hla
  rw [hy] at HSb HL HC2 hlb
  clear hx hy
  go_enter Tryd.func25, Tryd.ntmps25
  go_wp2_with fail
  refine HC.out.mono ?_
  rintro e w1 ⟨v1, rfl, hown, hb1⟩
  have HB1 := Lib.hid hb1
  have HO1 := Lib.hid hown
  have hz1 := hb1.size
  clear hown hb1
  go_wp2_with fail
  refine (HC2.out _ HB1.out).mono ?_
  rintro e w2 ⟨v2, rfl, hown2, hb2⟩
  have HB2 := Lib.hid (HB1.out.trans (hb2.mono hz1))
  have hz2 := Nat.le_trans hz1 hb2.size
  obtain ⟨ao1, cap1, hv1, hat1, hn1⟩ := strs_own2 (own_below HO1.out hb2) rfl
  obtain ⟨ao2, cap2, hv2, hat2, hn2⟩ := strs_own2 hown2 rfl
  subst hv1 hv2
  have hb3 := box_below w2 (.cells #[.slice ao1 x.length cap1, .slice ao2 y.length cap2] 22)
  have HG := Lib.hid (concat_k w2.heap.size ao1 ao2 x.length y.length cap1 cap2 x y _ (kbc_new w2 _) (StrsAt.below hat1 hb3) (StrsAt.below hat2 hb3) hn1 hn2 (by omega) (by omega))
  have HB3 := Lib.hid (HB2.out.trans (hb3.mono hz2))
  have hz3 := Nat.le_trans hz2 hb3.size
  clear hown2 hb2 hat1 hat2 hn1 hn2 hb3 HO1 HC HC2
  go_wp2_with fail
  refine HG.out.mono ?_
  rintro e w4 ⟨v4, rfl, hown4, hb4⟩
  have HB4 := Lib.hid (HB3.out.trans (hb4.mono hz3))
  have hz4 := Nat.le_trans hz3 hb4.size
  obtain ⟨ao4, cap4, rfl, hat4⟩ := strs_own hown4 (by rw [List.length_append])
  have HR := Lib.hid (sorted_k ao4 _ cap4 _ L w4 hat4 (sms_app HSa.out HSb.out (by omega)) (HO.out.step HB4.out) HL.out)
  clear hown4 hb4 hat4 HG
  go_wp2_with fail
  refine HR.out.mono ?_
  rintro e w5 ⟨v5, rfl, hown5, hb5⟩
  have HO5 := Lib.hid (row_mono hown5 hz4)
  have HB5 := Lib.hid (HB4.out.trans (hb5.mono hz4))
  clear hown5 hb5
  go_wp2_with fail
  go_ret
  exact ⟨_, rfl, HO5.out, HB5.out⟩

end Go.Proofs.YtminodinhbcgnaaDoor
