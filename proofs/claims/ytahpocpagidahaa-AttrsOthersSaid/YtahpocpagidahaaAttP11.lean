/-
  Contracts of slices.DeleteFunc at attributes with the closure of attrs.Pick, and of attrs.Pick. Condition: as Sorted's.
-/
import Derived.Test.YtahpocpagidahaaAttP10
import Derived.Laws.OwnMore
import Derived.Lib.SliceRun
set_option linter.unusedVariables false
set_option linter.unusedSimpArgs false
set_option linter.unnecessarySimpa false
namespace Go.Proofs.Ytahpocpagidahaa
open Go.RowKit Go.PlainAid Go.Maps Go.ChangeMaps

theorem below_grown {w w' : World} {row : Option Nat} (hb : Below w.heap.size w w') : w.grownBy w' row := ⟨hb.os, hb.tape, hb.output, hb.size, fun k hk _ => hb.block k hk⟩
theorem grown_setCells {g : Nat} : ∀ (vs : List Value) (o : Nat) (w : World), w.grownBy (w.setCells g o vs) (some g)
  | [], _, w => grown_refl w _
  | v :: vs, o, w => grown_two (grown_set w g o v) (grown_setCells vs (o + 1) _)
theorem run_clear_attrs (w : World) (ty : TypeId) (b o n c : Nat) (hn : 0 < n) (hc : ∀ j, j < n * 2 → (w.cell? ⟨b, o + j, none⟩).isSome = true) (hf : ∀ j, j < n * 2 → w.frozen? ⟨b, o + j, none⟩ = false) :
    ∃ zs, (Builtin.clear_ #[22] ty #[.slice (some ⟨b, o, none⟩) n c]).run Try.prog w = .ok (.tuple #[]) (w.setCells b o zs) := by
  have hv : ∀ w, (zeroValue 42).run Try.prog w = .ok (.agg #[.string ⟨#[]⟩, .slice none 0 0]) w := Try.zeroValue42
  obtain ⟨zs, hzs⟩ : ∃ zs, (Builtin.zeroCells (Value.agg #[.string ⟨#[]⟩, .slice none 0 0]).cells n).toList = zs := ⟨_, rfl⟩
  have hl : zs.length = n * 2 := by rw [← hzs]; show (Builtin.zeroCells #[.string ⟨#[]⟩, .slice none 0 0] n).toList.length = _; simp [Builtin.zeroCells]
  have h1 : ∀ v ∈ zs, v.oneCell' = true := by
    intro v hv'
    rw [← hzs] at hv'
    have hv2 : v ∈ (Builtin.zeroCells #[.string ⟨#[]⟩, .slice none 0 0] n).toList := hv'
    simp only [Builtin.zeroCells, Array.toList_map, List.mem_map] at hv2
    obtain ⟨i, _, rfl⟩ := hv2
    rcases Nat.mod_two_eq_zero_or_one i with e | e <;> simp [e] <;> rfl
  have hst := run_storeCells_cells (P := Try.prog) b o zs 0 w (by rw [hl]; simpa using hc) (by rw [hl]; simpa using hf) h1
  simp only [Nat.add_zero] at hst
  obtain ⟨m, rfl⟩ : ∃ m, n = m + 1 := ⟨n - 1, by omega⟩
  refine ⟨zs, ?_⟩
  simp [Builtin.clear_, run_underlying Try.underlying22, hv, hzs, hst]
theorem own_tcells {w : World} {base g cap n : Nat} {u : List Tr} (h : w.ownsRow base 42 2 (.slice (some ⟨g, 0, none⟩) n cap) n (tcells u)) (k : Nat) (hk : k < n) :
    w.cell? ⟨g, k * 2, none⟩ = some (.string (trD u k).1) ∧ w.cell? ⟨g, k * 2 + 1, none⟩ = some (trD u k).2.1 := by
  have hl : u.length = n := by have := h.1; rw [tcells_len] at this; omega
  have := tcells_at u k (by omega)
  exact ⟨by rw [h.cellAt _ (by omega)]; exact this.1, by rw [h.cellAt _ (by omega)]; exact this.2⟩
theorem tcells_set : ∀ (u : List Tr) (k : Nat) (p : Tr), k < u.length → tcells (u.set k p) = ((tcells u).set (k * 2) (.string p.1)).set (k * 2 + 1) p.2.1
  | [], k, p, h => absurd h (Nat.not_lt_zero _)
  | x :: u, 0, p, h => rfl
  | x :: u, k + 1, p, h => by
    have ih := tcells_set u k p (by simpa using h)
    rw [List.set_cons_succ, tcells_cons, ih, tcells_cons, show (k + 1) * 2 = k * 2 + 1 + 1 by omega]
    rfl
theorem trD_set (u : List Tr) (i j : Nat) (p : Tr) (h : i < u.length) : trD (u.set i p) j = if j = i then p else trD u j := by
  unfold trD
  rw [List.getD_eq_getElem?_getD, List.getD_eq_getElem?_getD, List.getElem?_set]
  by_cases e : i = j
  · subst e; rw [if_pos rfl, if_pos h, if_pos rfl]; rfl
  · rw [if_neg e, if_neg (fun x => e x.symm)]
theorem take_set_tr (u : List Tr) (i : Nat) (p : Tr) (h : i < u.length) : (u.set i p).take (i + 1) = u.take i ++ [p] := by
  rw [tr_take _ _ (by rw [List.length_set]; exact h), trD_set _ _ _ _ h, if_pos rfl, List.take_set_of_le (Nat.le_refl _)]
theorem filter_tr (T : List Tr) (j : Nat) (h : j < T.length) (q : Tr → Bool) : (T.take (j + 1)).filter q = if q (trD T j) then (T.take j).filter q ++ [trD T j] else (T.take j).filter q := by
  rw [tr_take T j h, List.filter_append]
  by_cases e : q (trD T j) = true
  · simp [e]
  · simp [e]
theorem own_cutA {w : World} {base g cap n : Nat} {xs : List Value} (h : w.ownsRow base 42 2 (.slice (some ⟨g, 0, none⟩) n cap) n xs) (i : Nat) (hi : i ≤ n) :
    w.ownsRow base 42 2 (.slice (some ⟨g, 0, none⟩) i cap) i (xs.take (i * 2)) := by
  obtain ⟨hl, ⟨he, _⟩ | ⟨g', cap', cur, he, h2, h3, h4, h5, h6, h7⟩⟩ := h
  · cases he
  · cases he
    refine ⟨by rw [List.length_take, hl]; omega, .inr ⟨g, cap, cur, rfl, h2, h3, by omega, h5, h6, ?_⟩⟩
    rw [← h7, List.take_take, Nat.min_eq_left (by omega)]
theorem own_setCellsA {base g cap n : Nat} : ∀ (vs : List Value) (w : World) (o : Nat) (xs : List Value), w.ownsRow base 42 2 (.slice (some ⟨g, 0, none⟩) n cap) n xs →
    ∃ ys, (w.setCells g o vs).ownsRow base 42 2 (.slice (some ⟨g, 0, none⟩) n cap) n ys ∧ ∀ i, i ≤ o → ys.take i = xs.take i
  | [], w, o, xs, h => ⟨xs, h, fun _ _ => rfl⟩
  | v :: vs, w, o, xs, h => by
    obtain ⟨ys, h1, h2⟩ := own_setCellsA vs (w.setCell ⟨g, o, none⟩ v) (o + 1) (xs.set o v) (h.stored o v).1
    refine ⟨ys, h1, fun i hi => ?_⟩
    rw [h2 i (by omega)]
    apply List.ext_getElem?
    intro j
    rw [List.getElem?_take, List.getElem?_take]
    split
    · rw [List.getElem?_set, if_neg (by omega)]
    · rfl

set_option maxRecDepth 100000 in
set_option maxHeartbeats 8000000 in
theorem delA_s (base g n cap : Nat) (T : List Tr) (w : World) (bn bm mb N : Nat) (D : DataW Unit) (no : Option Addr) (nn nc : Nat) (ns : List ByteArray) (hown : w.ownsRow base 42 2 (.slice (some ⟨g, 0, none⟩) n cap) n (tcells T)) (hK : TOk w T)
    (h : Sees w bn bm mb N D no nn nc ns) (hnn : ns.length = nn) (hS : ∀ t ∈ T, t.1.size ≤ maxLen) (h1 : bn ≠ g) (h2 : bm ≠ g) (h3 : mb ≠ g) (hn : n ≤ 1000) :
    Calls Try.prog 52 #[.slice (some ⟨g, 0, none⟩) n cap, .func (.func 53) #[] #[.pointer (some ⟨bn, 0, none⟩), .pointer (some ⟨bm, 0, none⟩)]] w fun e w' =>
      ∃ m, e = .returned (.slice (some ⟨g, 0, none⟩) m cap) ∧ w'.ownsRow base 42 2 (.slice (some ⟨g, 0, none⟩) m cap) m (tcells (T.filter fun t => wantB ns t.1)) ∧ w.grownBy w' (some g) := by
  obtain ⟨hTl, ao', cap', e, hat, _⟩ := ts_owns hown
  cases e
  have hcap : n ≤ cap ∧ cap ≤ 9223372036854775807 := ⟨hat.2.1, hat.2.2.1⟩
  have HI := Lib.hid (idx_s _ n cap T w bn bm mb N D no nn nc ns hat hK h hnn hS)
  have H := Lib.hid hown
  have HK := Lib.hid hK
  have HSE := Lib.hid h
  clear hown hat hK h
  go_enter Try.func52, Try.ntmps52
  go_wp2_with fail
  refine HI.out.mono ?_
  rintro e w1 ⟨k0, hk0, hmiss, hhit, rfl, hb⟩
  by_cases hall : k0 < n
  · rw [if_pos hall]
    have HF := Lib.hid (show T.take k0 = (T.take (k0 + 1)).filter fun t => wantB ns t.1 by
      rw [filter_tr T k0 (by omega), if_neg (by rw [hhit hall]; simp), eq_comm, List.filter_eq_self]
      intro t ht
      obtain ⟨j, hj, hjl, rfl⟩ := mem_part ht
      exact hmiss j hj)
    have hne1 : ((k0 : Int) == -1) = false := beq_eq_false_iff_ne.2 (by omega)
    have HO1 := Lib.hid (own_below H.out hb)
    have HG1 := Lib.hid (below_grown (row := some g) hb)
    clear hmiss hhit hb H HI
    go_wp2_with fail
    go_loopw [5, 6, 7] (fun iv jv s7 wr => ∃ (i j : Nat) (u : List Tr), iv = .int .i64 i ∧ jv = .int .i64 j ∧ i < j ∧ j ≤ n ∧ Hid (wr.ownsRow base 42 2 (.slice (some ⟨g, 0, none⟩) n cap) n (tcells u)) ∧ Hid (u.take i = (T.take j).filter fun t => wantB ns t.1) ∧ Hid (∀ x, j ≤ x → trD u x = trD T x) ∧ Hid (w.grownBy wr (some g))) (fun _ jv _ _ => n - (intOf jv).toNat)
    case atStart => exact ⟨k0, k0 + 1, T, rfl, by go_num, by omega, by omega, HO1, HF, Lib.hid fun _ _ => rfl, HG1⟩
    case round =>
      obtain ⟨i, j, u, rfl, rfl, hij, hjn, HO, HT, HR, HG⟩ := hrel
      have HUL := Lib.hid (ts_owns HO.out).1
      have j0 : (0 : Int) ≤ (j : Int) := by omega
      have i0 : (0 : Int) ≤ (i : Int) := by omega
      have i1 : (i : Int) < (n : Int) := by omega
      by_cases hlt : j < n
      · have j1 : (j : Int) < (n : Int) := by omega
        obtain ⟨c1, c2⟩ := own_tcells HO.out j hlt
        have HRJ := Lib.hid (HR.out j (Nat.le_refl _))
        rw [HRJ.out] at c1 c2
        have hhd := HK.out _ (tr_mem T j (by omega))
        have hps := hS _ (tr_mem T j (by omega))
        have HFN := Lib.hid (filter_tr T j (by omega) fun t => wantB ns t.1)
        obtain ⟨x, hx⟩ : ∃ x, trD T j = x := ⟨_, rfl⟩
        rw [hx] at c1 c2 hhd hps HFN
        clear hx
        obtain ⟨p, hd, vs⟩ := x
        simp only [] at c1 c2 hhd hps HFN
        obtain ⟨vo, vn, vc, rfl, _⟩ := hhd
        have HSR := Lib.hid (HSE.out.kept HG.out h1 h2 h3)
        obtain ⟨z, hz⟩ : ∃ x, wantB ns p = x := ⟨_, rfl⟩
        rw [hz] at HFN
        have hba : Below wr.heap.size wr (wr.alloc (.cells #[.string p, .slice vo vn vc] 42)) := (Below.refl _ wr).alloc (Nat.le_refl _) _
        have HP := Lib.hid (pick1_s p vo vn vc _ bn bm mb N D no nn nc ns (HSR.out.below hba) hnn hps)
        rw [hz] at HP
        have X1 := abox_new wr p (.slice vo vn vc)
        obtain ⟨x0, x1⟩ := X1.cells
        have HBA := Lib.hid hba
        have HX1 := Lib.hid X1
        clear hz hba X1
        cases z with
        | false =>
          have HN := Lib.hid (show u.take i = (T.take (j + 1)).filter fun t => wantB ns t.1 by rw [HFN.out, if_neg (by simp)]; exact HT.out)
          go_wp2_with fail
          refine HP.out.mono ?_
          rintro e w5 ⟨rfl, hb⟩
          have hbb := HBA.out.trans (hb.mono HBA.out.size)
          have HO2 := Lib.hid (own_below HO.out hbb)
          have HG2 := Lib.hid (grown_two HG.out (below_grown (row := some g) hbb))
          clear hbb hb
          go_wp2_with fail
          go_roundw
          case rel => exact ⟨i, j + 1, u, rfl, by go_num, by omega, by omega, HO2, HN, Lib.hid fun z hz => HR.out z (by omega), HG2⟩
          case measure => simp [intOf]; omega
        | true =>
          have HN := Lib.hid (show (u.set i (p, .slice vo vn vc, vs)).take (i + 1) = (T.take (j + 1)).filter fun t => wantB ns t.1 by
            rw [HFN.out, if_pos rfl, take_set_tr _ _ _ (by have := HUL.out; omega), HT.out])
          go_wp2_with fail
          refine HP.out.mono ?_
          rintro e w5 ⟨rfl, hb⟩
          have hbb := HBA.out.trans (hb.mono HBA.out.size)
          have hO2 := own_below HO.out hbb
          have HO2 := Lib.hid hO2
          have HG2 := Lib.hid (grown_two HG.out (below_grown (row := some g) hbb))
          obtain ⟨y0, y1⟩ := (HX1.out.below hb).cells
          obtain ⟨e1, e2⟩ := own_tcells hO2 i (by omega)
          have f1 : w5.frozen? ⟨g, i * 2, none⟩ = false := hO2.frozenAt _
          have f2 : w5.frozen? ⟨g, i * 2 + 1, none⟩ = false := hO2.frozenAt _
          clear hbb hb hO2 x0 x1 c1 c2
          go_wp2_with fail
          go_roundw
          case rel => exact ⟨i + 1, j + 1, u.set i (p, .slice vo vn vc, vs), by go_num, by go_num, by omega, by omega, Lib.hid (by
            rw [tcells_set u i _ (by have := HUL.out; omega)]
            exact ((HO2.out.stored (i * 2) (.string p)).1.stored (i * 2 + 1) (.slice vo vn vc)).1), HN, Lib.hid (fun z hz => by
            rw [trD_set _ _ _ _ (by have := HUL.out; omega), if_neg (by omega)]
            exact HR.out z (by omega)), Lib.hid (grown_two (grown_two HG2.out (grown_set _ g (i * 2) _)) (grown_set _ g (i * 2 + 1) _))⟩
          case measure => simp [intOf]; omega
      · obtain rfl : n = j := by omega
        have HFI := Lib.hid (show u.take i = T.filter fun t => wantB ns t.1 by rw [HT.out, List.take_of_length_le (by omega)])
        obtain ⟨hc1, hc2⟩ := hcap
        have hcl0 := fun ty => run_clear_attrs wr ty g (0 + i * 2) (n - i) (cap - i) (by omega) (fun z hz => by
          have hk := own_tcells HO.out (i + z / 2) (by omega)
          rcases Nat.mod_two_eq_zero_or_one z with e | e
          · rw [show 0 + i * 2 + z = (i + z / 2) * 2 by omega, hk.1]; rfl
          · rw [show 0 + i * 2 + z = (i + z / 2) * 2 + 1 by omega, hk.2]; rfl) (fun z hz => HO.out.frozenAt _)
        rw [Nat.zero_add] at hcl0
        obtain ⟨zs, hcl⟩ := hcl0 0
        have k1 : (i : Int) ≤ (n : Int) := by omega
        have k2 : (i : Int) ≤ (cap : Int) := by omega
        have k3 : (i : Int) < (cap : Int) := by omega
        have HOZ := Lib.hid (own_setCellsA zs wr (i * 2) (tcells u) HO.out)
        have HGZ := Lib.hid (grown_two HG.out (grown_setCells zs (i * 2) wr))
        clear hcl0
        go_wp2_with fail
        go_ret
        obtain ⟨ys, q1, q2⟩ := HOZ.out
        have q3 := own_cutA q1 i (by omega)
        rw [q2 (i * 2) (Nat.le_refl _), tcells_take, HFI.out] at q3
        exact ⟨i, rfl, q3, HGZ.out⟩
  · rw [if_neg hall]
    obtain rfl : k0 = n := by omega
    have HF := Lib.hid (show T.filter (fun t => wantB ns t.1) = T by
      rw [List.filter_eq_self]
      intro t ht
      obtain ⟨j, hj, rfl⟩ := List.getElem_of_mem ht
      rw [← tr_get T j hj]
      exact hmiss j (by omega))
    have HO1 := Lib.hid (own_below H.out hb)
    have HG1 := Lib.hid (below_grown (row := some g) hb)
    clear hmiss hhit hb H HI
    go_wp2_with fail
    go_ret
    exact ⟨k0, rfl, by rw [HF.out]; exact HO1.out, HG1.out⟩

end Go.Proofs.Ytahpocpagidahaa
