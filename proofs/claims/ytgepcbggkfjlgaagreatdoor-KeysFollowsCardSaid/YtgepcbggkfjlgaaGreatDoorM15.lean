/-
  Texts of the schema layer and of those beneath it, joined: KeyW, KeyFst, KeyX, KeyG. Conditions stand at each contract.
-/
import Derived.Test.YtgepcbggkfjlgaaGreatDoorM02
import Derived.Test.YtgepcbggkfjlgaaGreatDoorM03
import Derived.Test.YtgepcbggkfjlgaaGreatDoorM04
import Derived.Test.YtgepcbggkfjlgaaGreatDoorM07
import Derived.Test.YtgepcbggkfjlgaaGreatDoorM13
import Derived.Test.YtgepcbggkfjlgaaGreatDoorM14

section
/-
  Contract of the specification's ReadLine. Condition: at most 1000000 bytes.
-/
set_option maxRecDepth 100000
set_option linter.unusedVariables false
set_option linter.unusedSimpArgs false
set_option linter.unnecessarySimpa false
namespace Go.Proofs.YtgepcbggkfjlgaaGreatDoor
open Go.RowKit Go.PlainAid

def icells (l : List Int) : List Value := l.map fun k => Value.int .i64 k
theorem icells_snoc (l : List Int) (k : Int) : icells (l ++ [k]) = icells l ++ [.int .i64 k] := by simp [icells]
theorem info_int : (Tryz.prog.info? 3).map (fun i => (i.zero, i.size, i.bytes)) = some (some (.int .i64 0), 1, 8) := by kernel_rfl
/-- 'l = append(l, k)' where l is the call's own -/
theorem push_int {ops : Array Oper} {rest : List Oper} {o : Oper} {a : Act} {Q : Exit → Act → World → Prop} (wr : World) {base : Nat} {v : Value} {n : Nat} {xs : List Value} (hown : wr.ownsRow base 3 1 v n xs) (s x : Operand)
    (p : Int) (hgd : o.guard = none)
    (ho : o.op = .call { callee := .builtin .append, args := #[s, x], argTypes := #[100, 100] })
    (hs : a.eval s = v) (hx : a.eval x = .slice (some ⟨wr.heap.size, 0, none⟩) 1 1) (hn : n + 1 ≤ 1000000000) (hbase : base ≤ wr.heap.size)
    (h : ∀ v' w', w'.ownsRow base 3 1 v' (n + 1) (xs ++ [.int .i64 p]) → Below base wr w' → wpList Tryz.prog ops Q rest (a.put o.dst v') w') :
    wpList Tryz.prog ops Q (o :: rest) a (wr.alloc (.cells #[.int .i64 p] 3)) := by
  obtain ⟨i0, hi, hz0, hz1, hz2⟩ := k_parts info_int
  refine wpList_append_own _ hgd s x 100 ho base 3 i0 (.int .i64 0) 1 8 Tryz.underlying100 hi hz0 hz1 hz2 rfl (by decide) v n xs hs (hown.alloc _) ⟨wr.heap.size, 0, none⟩ 1 1 [.int .i64 p] hx rfl
    (cell_one_new _ _ _) (by intro u hu; simp at hu; subst hu; rfl) (by unfold maxLen; omega) (by omega) (by simp; omega) ?_
  intro v' w' h1 h2 _
  refine h v' w' h1 ?_
  exact ((Below.refl base wr).alloc hbase _).grown h2 (by simp; omega) (fun k hk => (hown.lt k hk).1)
theorem own_empty (w : World) : (w.alloc (.cells #[] 3)).ownsRow w.heap.size 3 1 (.slice (some ⟨w.heap.size, 0, none⟩) 0 0) 0 [] :=
  ⟨rfl, .inr ⟨w.heap.size, 0, #[], rfl, Nat.le_refl _, heap_alloc_new w _, Nat.le_refl _, by unfold maxLen; omega, rfl, rfl⟩⟩
theorem ints_form {w : World} {base n : Nat} {v : Value} {l : List Int} (h : w.ownsRow base 3 1 v n (icells l)) (hn : 0 < n) : ∃ g cap, v = .slice (some ⟨g, 0, none⟩) n cap ∧ base ≤ g ∧ g < w.heap.size ∧ n ≤ cap ∧ cap ≤ maxLen ∧ ∀ (j : Nat) (z : Int), l[j]? = some z → w.cell? ⟨g, j, none⟩ = some (.int .i64 z) := by
  have h0 := h
  rcases h.2 with ⟨e, rfl⟩ | ⟨g, cap, cur, rfl, hb, hg, hc, hm, hcs, ht⟩
  · omega
  · refine ⟨g, cap, rfl, hb, (Array.getElem?_eq_some_iff.1 hg).1, hc, hm, fun j z hj => ?_⟩
    have := h0.cells (g := g) rfl j (.int .i64 z) (by unfold icells; rw [List.getElem?_map, hj]; rfl)
    rw [Go.WideShapes.add_plain, Nat.zero_add] at this
    exact this
theorem rcut_q (s : ByteArray) (l : List ByteArray) (n : Nat) (w : World) (hs : s.size ≤ 1000000) (hl : partsB 32 s = l) (hn : l.length = n) (h1 : 0 < n) :
    Calls Tryz.prog 83 #[.string s, .int .u8 32] w fun e w' => ∃ B cap, e = .returned (.slice (some ⟨B, 0, none⟩) n cap) ∧ w.heap.size ≤ B ∧ StrsAt w' (some ⟨B, 0, none⟩) n cap l ∧ Below w.heap.size w w' := by
  refine (rcut_s s 32 32 w hs rfl).mono fun e w' h => ?_
  obtain ⟨v, rfl, ho, hb⟩ := h
  rw [← parts_ofL, hl] at ho
  have hz : (pieces 32 s.data.toList).length = n := by rw [← hn, ← hl, parts_ofL, List.length_map]
  rw [hz] at ho
  obtain ⟨ao, cap, rfl, hat⟩ := strs_own ho hn
  have hf := strs_fresh ho
  obtain ⟨b, off, e, _⟩ := hat.at h1
  subst e
  rcases ho.2 with ⟨e, _⟩ | ⟨g, cap', cur, e, _⟩
  · cases e
  · cases e
    exact ⟨b, cap, rfl, hf b 0 rfl, hat, hb⟩
theorem rread_results (tmps : Array Value) (b : Nat) (cs : Array Value) (t : TypeId) (W : World) (hp : tmps.getD 2 undef = .pointer (some ⟨b, 0, none⟩)) (h : KbC W b (.cells cs t)) (h8 : cs.size = 6) :
    (results Tryz.f56 tmps).run Tryz.prog W = .ok (.tuple #[.agg cs, tmps.getD 3 undef]) W := by
  rw [results_cell_tmp rfl, hp]
  have hl := run_loadVar_row (P := Tryz.prog) W b t 31 cs (0, 0) _ h (by rfl) (by rfl) (by rw [h8]; rfl)
  simp [asAddr, Result.andThen, hl]
theorem run_q (s u : ByteArray) (z : Int) (w : World) (hs : s.size ≤ 1000000000) (hu : unS s = u) (hz : unE s = z) :
    Calls Tryz.prog 84 #[.string s] w fun e w' => e = .returned (.tuple #[.string u, .int .i64 z]) ∧ Below w.heap.size w w' := by subst hu; subst hz; exact runescape_s s w hs
theorem rreadI_q (s : ByteArray) (x y : Int) (w : World) (hs : s.size ≤ 1000000000) (hx : rdI s = (x, y)) :
    Calls Tryz.prog 85 #[.string s] w fun e w' => e = .returned (.tuple #[.int .i64 x, .int .i64 y]) ∧ w = w' := by
  have := rreadInt_s s w hs
  rw [show readI s.data.toList = (x, y) from hx] at this
  exact this
theorem wr_stay {ws : List ByteArray} {n : Nat} (h : wrN ws n = 4) : ∀ d, wrN ws (n + d) = 4
  | 0 => h
  | d + 1 => by
    show wrsE (wrN ws (n + d)) _ = 4
    rw [wr_stay h d]
    unfold wrsE
    exact if_neg fun q => q.2 rfl
def vlN (ws : List ByteArray) (k : Nat) : List Int := (ws.take k).map fun y => (rdI y).1
theorem vl_next {ws : List ByteArray} {k : Nat} {y : ByteArray} {v e : Int} (h : k < ws.length) (hy : sA ws k = y) (hr : rdI y = (v, e)) : vlN ws k ++ [v] = vlN ws (k + 1) := by
  unfold vlN
  rw [List.take_add_one, List.getElem?_eq_getElem h, ← sA_get h, hy]
  simp [hr]
set_option maxHeartbeats 4000000 in
theorem rreadLine_k (s : ByteArray) (g : Ky) (z : Int) (w : World) (hs : s.size ≤ 1000000) (hz : rdK s = (g, z)) :
    Calls Tryz.prog 56 #[.string s] w fun e w' => e = .returned (.tuple #[kV g, .int .i64 z]) ∧ Below w.heap.size w w' := by
  have HR := Lib.hid (show RsB w w.heap.size kZ (w.alloc (kB kZ)) from ⟨box_below w _, Nat.le_refl _, kbc_new w _⟩)
  have HSs := Lib.hid (World.size_alloc w (kB kZ))
  dsimp only [kB, kcells, kZ] at HR HSs
  obtain ⟨l, hl⟩ : ∃ l, partsB 32 s = l := ⟨_, rfl⟩
  have HL := Lib.hid hl
  have hl0 : 0 < l.length := by rw [← hl, partsB_len]; omega
  have HZl := Lib.hid (show ∀ x ∈ l, x.size ≤ 1000000000 from fun x hx => by rw [← hl] at hx; exact Nat.le_trans (partsB_small hx) (by omega))
  by_cases h6 : l.length = 6
  · obtain ⟨i, x, a, b, c, d, rfl⟩ := k_list6 h6
    rw [rd_6 hl] at hz
    obtain ⟨u, hu⟩ : ∃ u, unS x = u := ⟨_, rfl⟩
    obtain ⟨q, hq⟩ : ∃ q, unE x = q := ⟨_, rfl⟩
    rw [hq, hu] at hz
    have HU := Lib.hid hu
    have HQ := Lib.hid hq
    have hxs : x.size ≤ 1000000000 := HZl.out x (by simp)
    clear hl hu h6 hl0
    cases q1 : (q != 0)
    · have e0 : q = 0 := by simpa using q1
      subst e0
      rw [if_neg (by decide)] at hz
      clear q1 hq
      obtain ⟨m, hmm⟩ : ∃ m, bndE a b c d = m := ⟨_, rfl⟩
      rw [hmm] at hz
      have HM4 := Lib.hid (show wrN [a, b, c, d] 4 = m from hmm)
      have HZ := Lib.hid hz
      clear hz hmm
      go_enter Tryz.func56, Tryz.ntmps56
      go_wp2_with fail
      refine (rcut_q s [i, x, a, b, c, d] 6 _ hs HL.out rfl (by omega)).mono ?_
      rintro e w1 ⟨B, cap, rfl, hge, hst, hb⟩
      have HR1 := Lib.hid (HR.out.step hb)
      have HW := Lib.hid hst
      have HGe := Lib.hid (show w.heap.size < B from by rw [HSs.out] at hge; omega)
      have hcap := hst.2.1
      have hcap2 := hst.2.2.1
      unfold maxLen at hcap2
      obtain ⟨b7, off7, e7, _, hat⟩ := hst.at (by omega)
      cases e7
      have c1 : w1.cell? ⟨B, 1, none⟩ = some (.string x) := hat w1 (Below.refl _ _) 1 (by omega)
      clear hst hb hge hat
      go_wp2_with fail
      refine (run_q x u 0 _ hxs HU.out HQ.out).mono ?_
      rintro e w2 ⟨rfl, hb⟩
      have HR2 := Lib.hid (HR1.out.step hb)
      have HW2 := Lib.hid (HW.out.below hb)
      have HBl := Lib.hid (show B < w2.heap.size from by
        obtain ⟨b8, off8, e8, hi⟩ := HW2.out.2.2.2 (by omega)
        cases e8
        exact hi.1)
      clear hb c1
      have HO0 := Lib.hid (own_empty w2)
      have HB0 := Lib.hid (box_below w2 (.cells #[] 3))
      go_wp2_with fail
      go_loopw [7, 8, 9] (fun nv fv iv wr => ∃ (k m : Nat) (f : Int), m ≤ 6 ∧ Hid (m = k + 2) ∧ iv = .int .i64 m ∧ fv = .int .i64 f ∧ Hid (wrN [a, b, c, d] k = f) ∧ Hid (f ≠ 4) ∧ Hid (wr.ownsRow w2.heap.size 3 1 nv k (icells (vlN [a, b, c, d] k))) ∧ Hid (Below w2.heap.size w2 wr)) (fun _ _ iv _ => 6 - (intOf iv).toNat)
      case atStart => exact ⟨0, 2, 0, by omega, Lib.hid rfl, rfl, rfl, Lib.hid rfl, Lib.hid (by decide), HO0, HB0⟩
      case round =>
        clear HO0 HB0
        obtain ⟨k, m, f, hm6, HMk, rfl, rfl, HF, HF4, HO, HB⟩ := hrel
        by_cases hlt : m < 6
        · obtain ⟨y, hy⟩ : ∃ y, sA [i, x, a, b, c, d] m = y := ⟨_, rfl⟩
          have hk4 : k < 4 := by have := HMk.out; omega
          have hyk : sA [a, b, c, d] k = y := by rw [← hy, HMk.out]; rfl
          have hys : y.size ≤ 1000000000 := by rw [← hy, sA_get (by exact hlt)]; exact HZl.out _ (List.getElem_mem _)
          obtain ⟨⟨v, er⟩, hr⟩ : ∃ p, rdI y = p := ⟨_, rfl⟩
          have HRd := Lib.hid hr
          have HV := Lib.hid (vl_next (ws := [a, b, c, d]) (by exact hk4) hyk hr)
          obtain ⟨b8, off8, e8, _, hat⟩ := HW2.out.at (by omega)
          cases e8
          have c1 : wr.cell? ⟨B, m, none⟩ = some (.string y) := by have := hat wr HB.out m hlt; rw [Nat.zero_add] at this; rw [this]; exact congrArg (fun t => some (Value.string t)) hy
          have hwn : wrN [a, b, c, d] (k + 1) = wrsE f er := by show wrsE (wrN [a, b, c, d] k) (rdI (sA [a, b, c, d] k)).2 = _; rw [HF.out, hyk, hr]
          have m1 : (m : Int) < 6 := by omega
          have m2 : (0 : Int) ≤ (m : Int) := by omega
          have hkn : k + 1 ≤ 1000000000 := by omega
          have HRs := Lib.hid (HR2.out.step HB.out)
          clear hat hy hyk hr hk4
          cases q4 : (er == 4)
          · have e4 : er ≠ 4 := by simpa using q4
            cases q0 : (er != 0)
            · have e0 : er = 0 := by simpa using q0
              subst e0
              have HN1 := Lib.hid (show wrN [a, b, c, d] (k + 1) = f by rw [hwn]; unfold wrsE; exact if_neg fun h => h.1 rfl)
              clear hwn q4 q0 e4
              go_wp2_with fail
              refine (rreadI_q y v 0 _ hys HRd.out).mono ?_
              rintro e w' ⟨rfl, rfl⟩
              go_wp2_with (at_builtin; refine push_int _ HO.out (.tmp 47) (.tmp 49) v ?_ ?_ ?_ ?_ ?_ ?_ ?_; exact rfl; exact rfl; exact rfl; exact rfl; exact hkn; exact HB.out.size; intro v5 w5 hown5 hb5)
              rw [← icells_snoc, HV.out] at hown5
              have HO5 := Lib.hid hown5
              have HB5 := Lib.hid (HB.out.trans hb5)
              clear hown5 hb5 c1
              go_wp2_with fail
              go_roundw
              case rel => exact ⟨k + 1, m + 1, f, by omega, Lib.hid (by have := HMk.out; omega), by go_num, rfl, HN1, HF4, HO5, HB5⟩
              case measure => simp [intOf]; omega
            · have e0 : er ≠ 0 := by simpa using q0
              have HN1 := Lib.hid (show wrN [a, b, c, d] (k + 1) = er by rw [hwn]; unfold wrsE; exact if_pos ⟨e0, HF4.out⟩)
              have HE4 := Lib.hid e4
              clear hwn e4 e0
              go_wp2_with fail
              refine (rreadI_q y v er _ hys HRd.out).mono ?_
              rintro e w' ⟨rfl, rfl⟩
              go_wp2_with (at_builtin; refine push_int _ HO.out (.tmp 47) (.tmp 49) v ?_ ?_ ?_ ?_ ?_ ?_ ?_; exact rfl; exact rfl; exact rfl; exact rfl; exact hkn; exact HB.out.size; intro v5 w5 hown5 hb5)
              rw [← icells_snoc, HV.out] at hown5
              have HO5 := Lib.hid hown5
              have HB5 := Lib.hid (HB.out.trans hb5)
              clear hown5 hb5 c1
              go_wp2_with fail
              go_roundw
              case rel => exact ⟨k + 1, m + 1, er, by omega, Lib.hid (by have := HMk.out; omega), by go_num, rfl, HN1, HE4, HO5, HB5⟩
              case measure => simp [intOf]; omega
          · have e4 : er = 4 := by simpa using q4
            subst e4
            have hz := HZ.out
            have hm4 : m ≤ 6 := hm6
            have HE : Hid (g = kZ ∧ z = 4) := Lib.hid (by
              have h1 : wrN [a, b, c, d] (k + 1) = 4 := by rw [hwn]; unfold wrsE; exact if_pos ⟨by decide, HF4.out⟩
              have h2 := wr_stay h1 (3 - k)
              rw [show k + 1 + (3 - k) = 4 by have := HMk.out; omega, HM4.out] at h2
              have h3 := HZ.out
              rw [h2, if_pos (by decide)] at h3
              exact ⟨(Prod.mk.inj h3).1.symm, (Prod.mk.inj h3).2.symm⟩)
            clear hz hwn q4
            go_wp2_with fail
            refine (rreadI_q y v 4 _ hys HRd.out).mono ?_
            rintro e w' ⟨rfl, rfl⟩
            obtain ⟨g0, g1, g2, g3, g4, g5⟩ := kb_cells HRs.out.box
            have gf : ∀ j, wr.frozen? ⟨w.heap.size, j, none⟩ = false := fun j => HRs.out.box.frz
            go_wp2_with fail
            exact bodyPost_ret (rread_results _ _ _ _ _ rfl (KbC.set6 HRs.out.box) rfl) rfl ⟨by rw [HE.out.1, HE.out.2]; rfl, below_set6 HRs.out.low (Nat.le_refl _) _ _ _ _ _ _⟩
        · obtain rfl : m = 6 := by omega
          have hk4 : k = 4 := by have := HMk.out; omega
          subst hk4
          have HRs := Lib.hid (HR2.out.step HB.out)
          have hf : f = m := by rw [← HF.out]; exact HM4.out
          subst hf
          have hz := HZ.out
          cases q0 : (f != 0)
          · have e0 : f = 0 := by simpa using q0
            subst e0
            rw [if_neg (by decide)] at hz
            obtain ⟨hg, rfl⟩ := Prod.mk.inj hz
            obtain ⟨N, capn, rfl, hN1, hN2, hN3, hN4, hNc⟩ := ints_form HO.out (by omega)
            unfold maxLen at hN4
            obtain ⟨b8, off8, e8, _, hat⟩ := HW2.out.at (by omega)
            cases e8
            have hbB : B ≠ w.heap.size := Nat.ne_of_gt HGe.out
            have hbN : N ≠ w.heap.size := by have := HGe.out; have := HBl.out; omega
            have hBwr : B < wr.heap.size := Nat.lt_of_lt_of_le HBl.out HB.out.size
            have HC : Hid (wr.cell? ⟨B, 0, none⟩ = some (.string i) ∧ wr.cell? ⟨N, 0, none⟩ = some (.int .i64 (rdI a).1) ∧ wr.cell? ⟨N, 1, none⟩ = some (.int .i64 (rdI b).1) ∧ wr.cell? ⟨N, 2, none⟩ = some (.int .i64 (rdI c).1) ∧ wr.cell? ⟨N, 3, none⟩ = some (.int .i64 (rdI d).1)) :=
              Lib.hid ⟨hat wr HB.out 0 (by omega), hNc 0 _ rfl, hNc 1 _ rfl, hNc 2 _ rfl, hNc 3 _ rfl⟩
            obtain ⟨na, hna⟩ : ∃ x, (rdI a).1 = x := ⟨_, rfl⟩
            obtain ⟨nb, hnb⟩ : ∃ x, (rdI b).1 = x := ⟨_, rfl⟩
            obtain ⟨nc, hnc⟩ : ∃ x, (rdI c).1 = x := ⟨_, rfl⟩
            obtain ⟨nd, hnd⟩ : ∃ x, (rdI d).1 = x := ⟨_, rfl⟩
            rw [hna, hnb, hnc, hnd] at HC hg
            have HGg := Lib.hid hg.symm
            clear hg
            have HSt : Hid (∀ V, Bar w.heap.size wr V → V.cell? ⟨B, 0, none⟩ = some (.string i) ∧ V.cell? ⟨N, 0, none⟩ = some (.int .i64 na) ∧ V.cell? ⟨N, 1, none⟩ = some (.int .i64 nb) ∧ V.cell? ⟨N, 2, none⟩ = some (.int .i64 nc) ∧ V.cell? ⟨N, 3, none⟩ = some (.int .i64 nd)) := Lib.hid fun V hV =>
              ⟨(World.cell?_of_block (a := ⟨B, 0, none⟩) (hV.keep B hBwr hbB)).trans HC.out.1, (World.cell?_of_block (a := ⟨N, 0, none⟩) (hV.keep N hN2 hbN)).trans HC.out.2.1, (World.cell?_of_block (a := ⟨N, 1, none⟩) (hV.keep N hN2 hbN)).trans HC.out.2.2.1, (World.cell?_of_block (a := ⟨N, 2, none⟩) (hV.keep N hN2 hbN)).trans HC.out.2.2.2.1, (World.cell?_of_block (a := ⟨N, 3, none⟩) (hV.keep N hN2 hbN)).trans HC.out.2.2.2.2⟩
            clear hna hnb hnc hnd hNc hat hz q0 HZ HM4 HF4 HF HO
            have HR9 := Lib.hid (HRs.out.step (Below.refl wr.heap.size wr).drew)
            have HBr := Lib.hid ((Bar.refl w.heap.size wr).step (Below.refl wr.heap.size wr).drew)
            have S0 := HSt.out _ HBr.out
            obtain ⟨g0, g1, g2, g3, g4, g5⟩ := kb_cells HR9.out.box
            have gf : ∀ j, wr.drew.frozen? ⟨w.heap.size, j, none⟩ = false := fun j => HR9.out.box.frz
            go_wp2_with fail
            refine wp_region_held_drew (S := fun V => V.cell? ⟨B, 0, none⟩ = some (.string i) ∧ V.cell? ⟨N, 0, none⟩ = some (.int .i64 na) ∧ V.cell? ⟨N, 1, none⟩ = some (.int .i64 nb) ∧ V.cell? ⟨N, 2, none⟩ = some (.int .i64 nc) ∧ V.cell? ⟨N, 3, none⟩ = some (.int .i64 nd)) (by kernel_rfl) (S0) (fun hS => ?_)
            obtain ⟨Z, hZ⟩ : ∃ x, wr.drew = x := ⟨_, rfl⟩
            rw [hZ] at hS HR9 HBr g0 g1 g2 g3 g4 g5 gf ⊢
            clear hZ S0
            refine wpAnyH_take (i := 0) (oi := { dst := some 55, op := _, type := _, pos := _, after := _, guard := _ }) (v := ?_) rfl (by kernel_rfl) (by kernel_rfl) (by kernel_rfl) (fun _ _ _ h => h) (Or.inl ⟨by rfl, ?_⟩) (by assumption) ?_
            rotate_left
            · intro w hSw
              try dsimp only at hSw
              go_simp
              try with_reducible rfl
            try simp only [Act.put, List.setIfInBounds_toArray, List.set_cons_zero, List.set_cons_succ]
            refine wpAnyH_take (i := 1) (oi := { dst := some 56, op := _, type := _, pos := _, after := _, guard := _ }) (v := ?_) rfl (by kernel_rfl) (by kernel_rfl) (by kernel_rfl) (fun _ _ _ h => h) (Or.inl ⟨by rfl, ?_⟩) (by assumption) ?_
            rotate_left
            · intro w hSw
              try dsimp only at hSw
              go_simp
              try with_reducible rfl
            try simp only [Act.put, List.setIfInBounds_toArray, List.set_cons_zero, List.set_cons_succ]
            refine wpAnyH_take (i := 2) (oi := { dst := some 57, op := _, type := _, pos := _, after := _, guard := _ }) (v := ?_) rfl (by kernel_rfl) (by kernel_rfl) (by kernel_rfl) (fun _ _ _ h => h) (Or.inl ⟨by rfl, ?_⟩) (by assumption) ?_
            rotate_left
            · intro w hSw
              try dsimp only at hSw
              go_simp
              try with_reducible rfl
            try simp only [Act.put, List.setIfInBounds_toArray, List.set_cons_zero, List.set_cons_succ]
            refine wpAnyH_take (i := 3) (oi := { dst := some 58, op := _, type := _, pos := _, after := _, guard := _ }) (v := ?_) rfl (by kernel_rfl) (by kernel_rfl) (by kernel_rfl) (fun _ _ _ h => h) (Or.inl ⟨by rfl, ?_⟩) (by assumption) ?_
            rotate_left
            · intro w hSw
              try dsimp only at hSw
              go_simp
              try with_reducible rfl
            try simp only [Act.put, List.setIfInBounds_toArray, List.set_cons_zero, List.set_cons_succ]
            refine wpAnyH_take (i := 4) (oi := { dst := some 59, op := _, type := _, pos := _, after := _, guard := _ }) (v := ?_) rfl (by kernel_rfl) (by kernel_rfl) (by kernel_rfl) (fun _ _ _ h => h) (Or.inl ⟨by rfl, ?_⟩) (by assumption) ?_
            rotate_left
            · intro w hSw
              try dsimp only at hSw
              go_simp
              try with_reducible rfl
            try simp only [Act.put, List.setIfInBounds_toArray, List.set_cons_zero, List.set_cons_succ]
            refine wpAnyH_take (i := 5) (oi := { dst := some 60, op := _, type := _, pos := _, after := _, guard := _ }) (v := ?_) rfl (by kernel_rfl) (by kernel_rfl) (by kernel_rfl) (fun _ _ _ h => h) (Or.inl ⟨by rfl, ?_⟩) (by assumption) ?_
            rotate_left
            · intro w hSw
              try dsimp only at hSw
              go_simp
              try with_reducible rfl
            try simp only [Act.put, List.setIfInBounds_toArray, List.set_cons_zero, List.set_cons_succ]
            refine wpAnyH_take (i := 6) (oi := { dst := some 61, op := _, type := _, pos := _, after := _, guard := _ }) (v := ?_) rfl (by kernel_rfl) (by kernel_rfl) (by kernel_rfl) (fun _ _ _ h => h) (Or.inl ⟨by rfl, ?_⟩) (by assumption) ?_
            rotate_left
            · intro w hSw
              try dsimp only at hSw
              go_simp
              try with_reducible rfl
            try simp only [Act.put, List.setIfInBounds_toArray, List.set_cons_zero, List.set_cons_succ]
            refine wpAnyH_take (i := 7) (oi := { dst := some 62, op := _, type := _, pos := _, after := _, guard := _ }) (v := ?_) rfl (by kernel_rfl) (by kernel_rfl) (by kernel_rfl) (fun _ _ _ h => h) (Or.inl ⟨by rfl, ?_⟩) (by assumption) ?_
            rotate_left
            · intro w hSw
              try dsimp only at hSw
              go_simp
              try with_reducible rfl
            try simp only [Act.put, List.setIfInBounds_toArray, List.set_cons_zero, List.set_cons_succ]
            refine wpAnyH_take (i := 8) (oi := { dst := some 63, op := _, type := _, pos := _, after := _, guard := _ }) (v := ?_) rfl (by kernel_rfl) (by kernel_rfl) (by kernel_rfl) (fun _ _ _ h => h) (Or.inl ⟨by rfl, ?_⟩) (by assumption) ?_
            rotate_left
            · intro w hSw
              try dsimp only at hSw
              go_simp
              try with_reducible rfl
            try simp only [Act.put, List.setIfInBounds_toArray, List.set_cons_zero, List.set_cons_succ]
            refine wpAnyH_take (i := 9) (oi := { dst := some 64, op := _, type := _, pos := _, after := _, guard := _ }) (v := ?_) rfl (by kernel_rfl) (by kernel_rfl) (by kernel_rfl) (fun _ _ _ h => h) (Or.inl ⟨by rfl, ?_⟩) (by assumption) ?_
            rotate_left
            · intro w hSw
              try dsimp only at hSw
              go_simp
              try with_reducible rfl
            try simp only [Act.put, List.setIfInBounds_toArray, List.set_cons_zero, List.set_cons_succ]
            refine wpAnyH_take (i := 10) (oi := { dst := some 65, op := _, type := _, pos := _, after := _, guard := _ }) (v := ?_) rfl (by kernel_rfl) (by kernel_rfl) (by kernel_rfl) (fun _ _ _ h => h) (Or.inl ⟨by rfl, ?_⟩) (by assumption) ?_
            rotate_left
            · intro w hSw
              try dsimp only at hSw
              go_simp
              try with_reducible rfl
            try simp only [Act.put, List.setIfInBounds_toArray, List.set_cons_zero, List.set_cons_succ]
            refine wpAnyH_take (i := 11) (oi := { dst := some 66, op := _, type := _, pos := _, after := _, guard := _ }) (v := ?_) rfl (by kernel_rfl) (by kernel_rfl) (by kernel_rfl) (fun _ _ _ h => h) (Or.inl ⟨by rfl, ?_⟩) (by assumption) ?_
            rotate_left
            · intro w hSw
              try dsimp only at hSw
              go_simp
              try with_reducible rfl
            try simp only [Act.put, List.setIfInBounds_toArray, List.set_cons_zero, List.set_cons_succ]
            refine wpAnyH_take (i := 12) (oi := { dst := some 67, op := _, type := _, pos := _, after := _, guard := _ }) (v := ?_) rfl (by kernel_rfl) (by kernel_rfl) (by kernel_rfl) (fun _ _ _ h => h) (Or.inl ⟨by rfl, ?_⟩) (by assumption) ?_
            rotate_left
            · intro w hSw
              try dsimp only at hSw
              go_simp
              try with_reducible rfl
            try simp only [Act.put, List.setIfInBounds_toArray, List.set_cons_zero, List.set_cons_succ]
            refine wpAnyH_take (i := 13) (oi := { dst := some 68, op := _, type := _, pos := _, after := _, guard := _ }) (v := ?_) rfl (by kernel_rfl) (by kernel_rfl) (by kernel_rfl) (fun _ _ _ h => h) (Or.inl ⟨by rfl, ?_⟩) (by assumption) ?_
            rotate_left
            · intro w hSw
              try dsimp only at hSw
              go_simp
              try with_reducible rfl
            try simp only [Act.put, List.setIfInBounds_toArray, List.set_cons_zero, List.set_cons_succ]
            refine wpAnyH_take (i := 14) (oi := { dst := some 69, op := _, type := _, pos := _, after := _, guard := _ }) (v := ?_) rfl (by kernel_rfl) (by kernel_rfl) (by kernel_rfl) (fun _ _ _ h => h) (Or.inl ⟨by rfl, ?_⟩) (by assumption) ?_
            rotate_left
            · intro w hSw
              try dsimp only at hSw
              go_simp
              try with_reducible rfl
            try simp only [Act.put, List.setIfInBounds_toArray, List.set_cons_zero, List.set_cons_succ]
            refine wpAnyH_take (i := 15) (oi := { dst := some 70, op := _, type := _, pos := _, after := _, guard := _ }) (v := ?_) rfl (by kernel_rfl) (by kernel_rfl) (by kernel_rfl) (fun _ _ _ h => h) (Or.inl ⟨by rfl, ?_⟩) (by assumption) ?_
            rotate_left
            · intro w hSw
              try dsimp only at hSw
              go_simp
              try with_reducible rfl
            try simp only [Act.put, List.setIfInBounds_toArray, List.set_cons_zero, List.set_cons_succ]
            refine wpAnyH_take (i := 16) (oi := { dst := some 71, op := _, type := _, pos := _, after := _, guard := _ }) (v := ?_) rfl (by kernel_rfl) (by kernel_rfl) (by kernel_rfl) (fun _ _ _ h => h) (Or.inl ⟨by rfl, ?_⟩) (by assumption) ?_
            rotate_left
            · intro w hSw
              try dsimp only at hSw
              go_simp
              try with_reducible rfl
            try simp only [Act.put, List.setIfInBounds_toArray, List.set_cons_zero, List.set_cons_succ]
            refine wpAnyH_take (i := 17) (oi := { dst := some 72, op := _, type := _, pos := _, after := _, guard := _ }) (v := ?_) rfl (by kernel_rfl) (by kernel_rfl) (by kernel_rfl) (fun _ _ _ h => h) (Or.inl ⟨by rfl, ?_⟩) (by assumption) ?_
            rotate_left
            · intro w hSw
              try dsimp only at hSw
              go_simp
              try with_reducible rfl
            try simp only [Act.put, List.setIfInBounds_toArray, List.set_cons_zero, List.set_cons_succ]
            refine wpAnyH_take (i := 18) (oi := { dst := some 73, op := _, type := _, pos := _, after := _, guard := _ }) (v := ?_) rfl (by kernel_rfl) (by kernel_rfl) (by kernel_rfl) (fun _ _ _ h => h) (Or.inl ⟨by rfl, ?_⟩) (by assumption) ?_
            rotate_left
            · intro w hSw
              try dsimp only at hSw
              go_simp
              try with_reducible rfl
            try simp only [Act.put, List.setIfInBounds_toArray, List.set_cons_zero, List.set_cons_succ]
            refine wpAnyH_ready (rs := [19]) (by kernel_rfl) (by simp) ?_
            refine AllReadyH.cons rfl (fun K hK => ?_) AllReadyH.nil
            go_simp
            refine hK.out _ _ ?_ (fun hHeld => ?_)
            · exact HSt.out _ (HBr.out.set6 _ _ _ _ _ _)
            clear hK K
            try simp only [Act.put, List.setIfInBounds_toArray, List.set_cons_zero, List.set_cons_succ]
            refine wpAnyH_take (i := 20) (oi := { dst := some 3, op := _, type := _, pos := _, after := _, guard := _ }) (v := ?_) rfl (by kernel_rfl) (by kernel_rfl) (by kernel_rfl) (fun _ _ _ h => h) (Or.inl ⟨by rfl, ?_⟩) (by assumption) ?_
            rotate_left
            · intro w hSw
              try dsimp only at hSw
              go_simp
              try with_reducible rfl
            try simp only [Act.put, List.setIfInBounds_toArray, List.set_cons_zero, List.set_cons_succ]
            refine wpAnyH_done (by kernel_rfl) ?_ _
            go_wp2_with fail
            exact bodyPost_ret (rread_results _ _ _ _ _ rfl (KbC.set6 HR9.out.box) rfl) rfl ⟨by rw [HGg.out]; rfl, below_set6 HR9.out.low (Nat.le_refl _) _ _ _ _ _ _⟩
          · have e0 : f ≠ 0 := by simpa using q0
            rw [if_pos e0] at hz
            obtain ⟨rfl, rfl⟩ := Prod.mk.inj hz
            clear hz e0
            obtain ⟨g0, g1, g2, g3, g4, g5⟩ := kb_cells HRs.out.box
            have gf : ∀ j, wr.frozen? ⟨w.heap.size, j, none⟩ = false := fun j => HRs.out.box.frz
            go_wp2_with fail
            exact bodyPost_ret (rread_results _ _ _ _ _ rfl (KbC.set6 HRs.out.box) rfl) rfl ⟨rfl, below_set6 HRs.out.low (Nat.le_refl _) _ _ _ _ _ _⟩
    · have e0 : q ≠ 0 := by simpa using q1
      rw [if_pos e0] at hz
      obtain rfl : q = 4 := by rcases unE_is x with h | h <;> omega
      obtain ⟨rfl, rfl⟩ := Prod.mk.inj hz
      clear hz e0 q1 hq
      go_enter Tryz.func56, Tryz.ntmps56
      go_wp2_with fail
      refine (rcut_q s [i, x, a, b, c, d] 6 _ hs HL.out rfl (by omega)).mono ?_
      rintro e w1 ⟨B, cap, rfl, hge, hst, hb⟩
      have HR1 := Lib.hid (HR.out.step hb)
      have hcap := hst.2.1
      have hcap2 := hst.2.2.1
      unfold maxLen at hcap2
      obtain ⟨b7, off7, e7, _, hat⟩ := hst.at (by omega)
      cases e7
      have c1 : w1.cell? ⟨B, 1, none⟩ = some (.string x) := hat w1 (Below.refl _ _) 1 (by omega)
      clear hst hb hat
      go_wp2_with fail
      refine (run_q x u 4 _ hxs HU.out HQ.out).mono ?_
      rintro e w2 ⟨rfl, hb⟩
      have HR2 := Lib.hid (HR1.out.step hb)
      clear hb
      obtain ⟨g0, g1, g2, g3, g4, g5⟩ := kb_cells HR2.out.box
      have gf : ∀ j, w2.frozen? ⟨w.heap.size, j, none⟩ = false := fun j => HR2.out.box.frz
      go_wp2_with fail
      exact bodyPost_ret (rread_results _ _ _ _ _ rfl (KbC.set6 HR2.out.box) rfl) rfl ⟨rfl, below_set6 HR2.out.low (Nat.le_refl _) _ _ _ _ _ _⟩
  · rw [rd_no (by rw [hl]; exact h6)] at hz
    obtain ⟨rfl, rfl⟩ := Prod.mk.inj hz
    have d1 : ((l.length : Int) != 6) = true := by rw [bne_iff_ne]; omega
    have d2 : ¬ (l.length : Int) = 6 := by omega
    clear hz hl
    go_enter Tryz.func56, Tryz.ntmps56
    go_wp2_with fail
    refine (rcut_q s l l.length _ hs HL.out rfl hl0).mono ?_
    rintro e w1 ⟨B, cap, rfl, hge, hst, hb⟩
    have HR1 := Lib.hid (HR.out.step hb)
    clear hst hb
    obtain ⟨g0, g1, g2, g3, g4, g5⟩ := kb_cells HR1.out.box
    have gf : ∀ j, w1.frozen? ⟨w.heap.size, j, none⟩ = false := fun j => HR1.out.box.frz
    go_wp2_with fail
    exact bodyPost_ret (rread_results _ _ _ _ _ rfl (KbC.set6 HR1.out.box) rfl) rfl ⟨rfl, below_set6 HR1.out.low (Nat.le_refl _) _ _ _ _ _ _⟩
end Go.Proofs.YtgepcbggkfjlgaaGreatDoor
end

section
/-
  Contract of the specification's First, and where a text is cut at its first line feed. Condition: at most 1000000000 bytes.
-/
set_option linter.unusedVariables false
set_option linter.unusedSimpArgs false
set_option linter.unnecessarySimpa false
namespace Go.Proofs.YtgepcbggkfjlgaaGreatDoor
open Go.RowKit Go.PlainAid

theorem kf_ne (b : UInt8) : ∀ l : List UInt8, pieces b l ≠ []
  | [] => by simp [pieces]
  | c :: l => by
    unfold pieces
    split
    · simp
    · split <;> simp
/-- the place of the first byte b, or -1 -/
def firstS (s : ByteArray) (b : UInt8) : Int := if cutOk s ⟨#[b]⟩ then ((cutBef s ⟨#[b]⟩).size : Int) else -1
theorem kf_chr (s : ByteArray) (j : Nat) (h : j < s.size) : s.data.toList[j]? = some (chr s j) := by
  unfold chr
  rw [List.getD_eq_getElem?_getD, List.getElem?_eq_getElem (by simpa using h)]; rfl
theorem kf_hit (s : ByteArray) (b : UInt8) (i : Nat) (h : i < s.size) (hb : chr s i = b) (hn : ∀ j, j < i → chr s j ≠ b) : firstS s b = (i : Int) := by
  have hp := pieces_hit b s.data.toList i (by rw [kf_chr s i h, hb]) (fun j hj => by
    rw [kf_chr s j (by omega)]
    intro e
    exact hn j hj (by simpa using e))
  unfold firstS
  rcases cut_one s b with k | k
  · have k2 := k.2.1
    rw [hp] at k2
    injection k2 with h1 h2
    rw [if_pos k.1, Lib.size_eq, ← h1, List.length_take, ← Lib.size_eq]
    omega
  · have k2 := k.2.1
    rw [hp] at k2
    injection k2 with h1 h2
    exact absurd h2 (kf_ne b _)
theorem kf_miss (s : ByteArray) (b : UInt8) (hn : ∀ j, j < s.size → chr s j ≠ b) : firstS s b = -1 := by
  have hp := pieces_miss b s.data.toList (fun j => by
    intro e
    obtain ⟨h1, h2⟩ := List.getElem?_eq_some_iff.1 e
    have hlt : j < s.size := by simpa using h1
    refine hn j hlt ?_
    rw [kf_chr s j hlt] at e
    simpa using e)
  unfold firstS
  rcases cut_one s b with k | k
  · have k2 := k.2.1
    rw [hp] at k2
    injection k2 with h1 h2
    exact absurd h2.symm (kf_ne b _)
  · rw [k.1]; rfl

set_option maxRecDepth 100000 in
set_option maxHeartbeats 1000000 in
theorem first_s (s : ByteArray) (b : UInt8) (x : Int) (w : World) (hs : s.size ≤ 1000000000) (hx : x = (b.toNat : Int)) :
    Calls Tryz.prog 55 #[.string s, .int .u8 x] w fun e w' => e = .returned (.int .i64 (firstS s b)) ∧ w = w' := by
  have hb := get_bt s
  have HX := Lib.hid hx; clear hx
  go_enter Tryz.func55, Tryz.ntmps55
  go_wp2
  go_loop [5] (fun i => ∃ k : Nat, k ≤ s.size ∧ i = .int .i64 k ∧ Hid (∀ j, j < k → chr s j ≠ b)) (fun i => s.size - (intOf i).toNat)
  case atStart => exact ⟨0, Nat.zero_le _, rfl, Lib.hid fun j hj => absurd hj (Nat.not_lt_zero _)⟩
  case round =>
    obtain ⟨k, hk, rfl, HA⟩ := hrel
    by_cases hlt : k < s.size
    · have HC := Lib.hid (bt_chr s k)
      cases c1 : (bt s k == x)
      · have HN := Lib.hid (show chr s k ≠ b by
          intro e
          have h1 : bt s k = x := by rw [HC.out, e, HX.out]
          exact beq_eq_false_iff_ne.1 c1 h1)
        go_wp2
        go_round
        case rel =>
          exact ⟨k + 1, by omega, by go_num, Lib.hid fun j hj => if e : j = k then by rw [e]; exact HN.out else HA.out j (by omega)⟩
        case measure => simp [intOf]; omega
      · have HE := Lib.hid (show firstS s b = (k : Int) from kf_hit s b k hlt (by
          have h2 : bt s k = x := beq_iff_eq.1 c1
          exact UInt8.toNat_inj.1 (by have := HC.out; have := HX.out; omega)) HA.out)
        go_wp2
        go_ret
        exact ⟨by rw [HE.out]; rfl, rfl⟩
    · have HE := Lib.hid (show firstS s b = -1 from kf_miss s b fun j hj => HA.out j (by omega))
      go_wp2
      go_ret
      exact ⟨by rw [HE.out]; rfl, rfl⟩

theorem kf_bef (p : ByteArray) (b : UInt8) (h : cutOk p ⟨#[b]⟩ = true) : p.extract 0 (cutBef p ⟨#[b]⟩).size = cutBef p ⟨#[b]⟩ := by
  rw [Lib.extract_upto, cut_split p b h, Lib.size_eq (cutBef p ⟨#[b]⟩), List.take_left]
theorem kf_aft (p : ByteArray) (b : UInt8) (h : cutOk p ⟨#[b]⟩ = true) : p.extract ((cutBef p ⟨#[b]⟩).size + 1) p.size = cutAft p ⟨#[b]⟩ := by
  rw [Lib.extract_from, cut_split p b h, Lib.size_eq (cutBef p ⟨#[b]⟩)]
  rw [show (cutBef p ⟨#[b]⟩).data.toList ++ b :: (cutAft p ⟨#[b]⟩).data.toList = ((cutBef p ⟨#[b]⟩).data.toList ++ [b]) ++ (cutAft p ⟨#[b]⟩).data.toList by simp]
  rw [show (cutBef p ⟨#[b]⟩).data.toList.length + 1 = ((cutBef p ⟨#[b]⟩).data.toList ++ [b]).length by simp, List.drop_left]
theorem kf_is {s : ByteArray} {b : UInt8} {c : ByteArray} {o : Bool} (ho : cutOk s ⟨#[b]⟩ = o) (hc : cutBef s ⟨#[b]⟩ = c) : firstS s b = if o then (c.size : Int) else -1 := by
  unfold firstS; rw [ho, hc]
end Go.Proofs.YtgepcbggkfjlgaaGreatDoor
end

section
/-
  Contract of the specification's Parse. Condition: at most 1000000 bytes.
-/
set_option maxRecDepth 100000
set_option linter.unusedVariables false
set_option linter.unusedSimpArgs false
set_option linter.unnecessarySimpa false
namespace Go.Proofs.YtgepcbggkfjlgaaGreatDoor
open Go.RowKit Go.PlainAid

theorem first_q (s : ByteArray) (x : Int) (w : World) (hs : s.size ≤ 1000000000) (hx : firstS s 10 = x) :
    Calls Tryz.prog 55 #[.string s, .int .u8 10] w fun e w' => e = .returned (.int .i64 x) ∧ w = w' := by subst hx; exact first_s s 10 10 w hs rfl
theorem rreadLine_q (t b : ByteArray) (g : Ky) (z : Int) (w : World) (hs : b.size ≤ 1000000) (hz : rdK b = (g, z)) (ht : t = b) :
    Calls Tryz.prog 56 #[.string t] w fun e w' => e = .returned (.tuple #[kV g, .int .i64 z]) ∧ Below w.heap.size w w' := by subst ht; exact rreadLine_k t g z w hs hz
set_option maxHeartbeats 4000000 in
theorem rparse_k (s : ByteArray) (L : List Ky) (i z : Int) (w : World) (hs : s.size ≤ 1000000) (hz : parK s = (L, i, z)) :
    Calls Tryz.prog 29 #[.string s] w fun e w' => ∃ bo dap, e = .returned (.tuple #[.slice bo L.length dap, .int .i64 i, .int .i64 z]) ∧ KsAt w' bo L.length dap L ∧ Below w.heap.size w w' := by
  unfold parK at hz
  by_cases d : 4096 < s.size
  · rw [if_pos d] at hz
    obtain ⟨rfl, h5⟩ := Prod.mk.inj hz
    obtain ⟨rfl, rfl⟩ := Prod.mk.inj h5
    have d1 : (4096 : Int) < (s.size : Int) := by omega
    go_enter Tryz.func29, Tryz.ntmps29
    go_wp2_with fail
    go_ret3
    exact ⟨none, 0, rfl, ks_nil _, Below.refl _ _⟩
  · rw [if_neg d] at hz
    have d1 : ¬ (4096 : Int) < (s.size : Int) := by omega
    have HZ := Lib.hid hz
    clear hz
    go_enter Tryz.func29, Tryz.ntmps29
    go_wp2_with fail
    go_loopw [5, 6, 7] (fun v sv nv wr => ∃ (r : ByteArray) (p : List Ky) (n f : Nat), sv = .string r ∧ nv = .int .i64 n ∧ n + r.size ≤ 5000 ∧ r.size ≤ f ∧ Hid (parG f r p n = (L, i, z)) ∧ Hid (chkK p = 0) ∧ Hid (∀ k ∈ p, SmK k) ∧ Hid (wr.ownsRow w.heap.size 31 6 v p.length (kcs p)) ∧ Hid (Below w.heap.size w wr)) (fun _ sv _ _ => szV sv)
    case atStart => exact ⟨s, [], 1, s.size, rfl, rfl, by omega, Nat.le_refl _, HZ, Lib.hid rfl, Lib.hid (fun k hk => by cases hk), Lib.hid (World.ownsRow_nil _ _ _ _), Lib.hid (Below.refl _ _)⟩
    case round =>
      obtain ⟨r, p, n, f, rfl, rfl, hn, hf, HP, HC, HSm, HW, HB⟩ := hrel
      have hpl : p.length ≤ 16 := (okK_of HC.out).len
      by_cases h0 : r.size = 0
      · have hr : r = ⟨#[]⟩ := id_nil (by rw [Lib.toList_data]; exact List.length_eq_zero_iff.1 (by rw [← Lib.size_eq]; exact h0))
        have hp := HP.out
        rw [par_end h0] at hp
        obtain ⟨rfl, h5⟩ := Prod.mk.inj hp
        obtain ⟨rfl, rfl⟩ := Prod.mk.inj h5
        subst hr
        have hne : (ByteArray.toList ⟨#[]⟩).isEmpty = true := by rw [Lib.toList_data]; rfl
        obtain ⟨bo, dap, e1, hat⟩ := ks_of_owns HW.out
        have HA := Lib.hid hat
        subst e1
        clear hat hp h5
        go_wp2_with fail
        go_ret3
        exact ⟨bo, dap, rfl, HA.out, HB.out⟩
      · have hne : ¬ r.toList = [] := fun e => h0 (by rw [id_nil e]; rfl)
        have hne2 : r.toList.isEmpty = false := by
          cases e : r.toList with
          | nil => exact absurd e hne
          | cons x y => rfl
        clear hne
        obtain ⟨f, rfl⟩ : ∃ g, f = g + 1 := ⟨f - 1, by omega⟩
        obtain ⟨b, hb⟩ : ∃ b, cutBef r ⟨#[10]⟩ = b := ⟨_, rfl⟩
        obtain ⟨a, ha⟩ : ∃ a, cutAft r ⟨#[10]⟩ = a := ⟨_, rfl⟩
        have HBf := Lib.hid hb
        have HAf := Lib.hid ha
        have hrs : r.size ≤ 1000000000 := by omega
        cases ho : cutOk r ⟨#[10]⟩
        · have hp := HP.out
          rw [par_no h0 ho] at hp
          obtain ⟨rfl, h5⟩ := Prod.mk.inj hp
          obtain ⟨rfl, rfl⟩ := Prod.mk.inj h5
          have HF := Lib.hid (show firstS r 10 = -1 from kf_is ho hb)
          clear hp h5 ho hb ha
          go_wp2_with fail
          refine (first_q r (-1) _ hrs HF.out).mono ?_
          rintro e w' ⟨rfl, rfl⟩
          go_wp2_with fail
          go_ret3
          exact ⟨none, 0, rfl, ks_nil _, HB.out⟩
        · have hsz := aft_size ho
          rw [hb, ha] at hsz
          have HF := Lib.hid (show firstS r 10 = (b.size : Int) from kf_is ho hb)
          have HX1 := Lib.hid (show r.extract 0 b.size = b by rw [← hb]; exact kf_bef r 10 ho)
          have HX2 := Lib.hid (show r.extract (b.size + 1) r.size = a by rw [← hb, ← ha]; exact kf_aft r 10 ho)
          have z1 : (b.size : Int) ≤ (r.size : Int) := by omega
          have z2 : (b.size : Int) + 1 ≤ (r.size : Int) := by omega
          have z3 : b.size ≤ r.size := by omega
          have z4 : b.size + 1 ≤ r.size := by omega
          have z5 : ¬ (b.size : Int) < 0 := by omega
          obtain ⟨⟨g, q⟩, hg⟩ : ∃ x, rdK b = x := ⟨_, rfl⟩
          have HG := Lib.hid hg
          have hbs : b.size ≤ 1000000 := by omega
          have hgs : SmK g := by have := rd_sm hbs; rw [hg] at this; exact this
          have HSg := Lib.hid (show ∀ k ∈ p ++ [g], SmK k from fun k hk => by
            rcases List.mem_append.1 hk with h | h
            · exact HSm.out k h
            · rw [List.mem_singleton.1 h]; exact hgs)
          clear hgs
          cases qq : (q != 0)
          · have e0 : q = 0 := by simpa using qq
            subst e0
            obtain ⟨c, hc⟩ : ∃ c, chkK (p ++ [g]) = c := ⟨_, rfl⟩
            have HCk := Lib.hid hc
            cases qc : (c != 0)
            · have e0 : c = 0 := by simpa using qc
              subst e0
              have hp := HP.out
              rw [par_go h0 ho hb ha hg hc] at hp
              have HP1 := Lib.hid (show parG f a (p ++ [g]) ((n + 1 : Nat) : Int) = (L, i, z) from hp)
              clear hp ho hb ha hg hc qq qc
              go_wp2_with fail
              refine (first_q r b.size _ hrs HF.out).mono ?_
              rintro e w' ⟨rfl, rfl⟩
              go_wp2_with fail
              refine (rreadLine_q (r.extract 0 b.size) b g _ _ hbs HG.out HX1.out).mono ?_
              rintro e w3 ⟨rfl, hb⟩
              have HB3 := Lib.hid (HB.out.trans (hb.mono HB.out.size))
              have HW3 := Lib.hid (own_below HW.out hb)
              clear hb
              have hbA := box_below w3 (kB g)
              have hbB := hbA.trans ((box_below _ (kB g)).mono hbA.size)
              have HO4 := Lib.hid (own_below HW3.out hbB)
              have hk4 := ks_one (w3.alloc (kB g)) g
              rw [World.size_alloc] at hk4
              have HK4 := Lib.hid hk4
              have HB4 := Lib.hid (HB3.out.trans (hbB.mono HB3.out.size))
              dsimp only [kB, kcells] at HO4 HK4 HB4
              clear hbA hbB hk4
              unfold kV kcells
              go_wp2_with (at_builtin; refine app_ks _ HO4.out (.tmp 35) (.tmp 37) (some ⟨w3.heap.size + 1, 0, none⟩) 1 1 [g] ?_ ?_ ?_ ?_ ?_ ?_ ?_ ?_; exact rfl; exact rfl; exact rfl; exact rfl; exact HK4.out; omega; exact HB4.out.size; intro v5 w5 hown5 hb5)
              rw [← kcs_app] at hown5
              have hown6 : w5.ownsRow w.heap.size 31 6 v5 (p ++ [g]).length (kcs (p ++ [g])) := by rw [List.length_append]; exact hown5
              have HB5 := Lib.hid (HB4.out.trans hb5)
              have HW5 := Lib.hid hown6
              obtain ⟨bo, dap, e1, hat⟩ := ks_of_owns hown6
              subst e1
              have HA := Lib.hid hat
              clear hown5 hown6 hb5 hat
              go_wp2_with fail
              refine (rcheck_k bo _ dap (p ++ [g]) _ _ HA.out HSg.out HCk.out).mono ?_
              rintro e w6 ⟨rfl, hb⟩
              have HB6 := Lib.hid (HB5.out.trans (hb.mono HB5.out.size))
              have HW6 := Lib.hid (own_below HW5.out hb)
              clear hb
              go_wp2_with fail
              go_roundw
              case rel => exact ⟨a, p ++ [g], n + 1, f, by first | rfl | exact congrArg Value.string (by have h := HX2.out; rw [hsz] at h; exact h), by go_num, by omega, by omega, HP1, HCk, HSg, Lib.hid (by have h := HW6.out; rw [show (p ++ [g]).length = p.length + 1 from List.length_append] at h ⊢; exact h), HB6⟩
              case measure => simp [szV]; omega
            · have e0 : c ≠ 0 := by simpa using qc
              have hp := HP.out
              rw [par_chk h0 ho hb hg hc e0] at hp
              obtain ⟨rfl, h5⟩ := Prod.mk.inj hp
              obtain ⟨rfl, rfl⟩ := Prod.mk.inj h5
              clear hp h5 ho hb ha hg hc qq
              go_wp2_with fail
              refine (first_q r b.size _ hrs HF.out).mono ?_
              rintro e w' ⟨rfl, rfl⟩
              go_wp2_with fail
              refine (rreadLine_q (r.extract 0 b.size) b g _ _ hbs HG.out HX1.out).mono ?_
              rintro e w3 ⟨rfl, hb⟩
              have HB3 := Lib.hid (HB.out.trans (hb.mono HB.out.size))
              have HW3 := Lib.hid (own_below HW.out hb)
              clear hb
              have hbA := box_below w3 (kB g)
              have hbB := hbA.trans ((box_below _ (kB g)).mono hbA.size)
              have HO4 := Lib.hid (own_below HW3.out hbB)
              have hk4 := ks_one (w3.alloc (kB g)) g
              rw [World.size_alloc] at hk4
              have HK4 := Lib.hid hk4
              have HB4 := Lib.hid (HB3.out.trans (hbB.mono HB3.out.size))
              dsimp only [kB, kcells] at HO4 HK4 HB4
              clear hbA hbB hk4
              unfold kV kcells
              go_wp2_with (at_builtin; refine app_ks _ HO4.out (.tmp 35) (.tmp 37) (some ⟨w3.heap.size + 1, 0, none⟩) 1 1 [g] ?_ ?_ ?_ ?_ ?_ ?_ ?_ ?_; exact rfl; exact rfl; exact rfl; exact rfl; exact HK4.out; omega; exact HB4.out.size; intro v5 w5 hown5 hb5)
              rw [← kcs_app] at hown5
              have hown6 : w5.ownsRow w.heap.size 31 6 v5 (p ++ [g]).length (kcs (p ++ [g])) := by rw [List.length_append]; exact hown5
              have HB5 := Lib.hid (HB4.out.trans hb5)
              have HW5 := Lib.hid hown6
              obtain ⟨bo, dap, e1, hat⟩ := ks_of_owns hown6
              subst e1
              have HA := Lib.hid hat
              clear hown5 hown6 hb5 hat
              go_wp2_with fail
              refine (rcheck_k bo _ dap (p ++ [g]) _ _ HA.out HSg.out HCk.out).mono ?_
              rintro e w6 ⟨rfl, hb⟩
              have HB6 := Lib.hid (HB5.out.trans (hb.mono HB5.out.size))
              have HW6 := Lib.hid (own_below HW5.out hb)
              clear hb
              go_wp2_with fail
              go_ret3
              exact ⟨none, 0, rfl, ks_nil _, HB6.out⟩
          · have e0 : q ≠ 0 := by simpa using qq
            have hp := HP.out
            rw [par_bad h0 ho hb hg e0] at hp
            obtain ⟨rfl, h5⟩ := Prod.mk.inj hp
            obtain ⟨rfl, rfl⟩ := Prod.mk.inj h5
            clear hp h5 ho hb ha hg
            go_wp2_with fail
            refine (first_q r b.size _ hrs HF.out).mono ?_
            rintro e w' ⟨rfl, rfl⟩
            go_wp2_with fail
            refine (rreadLine_q (r.extract 0 b.size) b g _ _ hbs HG.out HX1.out).mono ?_
            rintro e w3 ⟨rfl, hb⟩
            have HB3 := Lib.hid (HB.out.trans (hb.mono HB.out.size))
            have HW3 := Lib.hid (own_below HW.out hb)
            clear hb
            unfold kV kcells
            go_wp2_with fail
            go_ret3
            exact ⟨none, 0, rfl, ks_nil _, HB3.out.trans ((box_below w3 _).mono HB3.out.size)⟩
end Go.Proofs.YtgepcbggkfjlgaaGreatDoor
end

section
/-
  Pure: the windows in which no key signs: what the program's pass over the union of the windows gives, what the specification's sweep gives, and that both are the same list. Nothing of the program stands here. No condition.
-/
set_option linter.unusedVariables false
set_option linter.unusedSimpArgs false
set_option linter.unnecessarySimpa false
namespace Go.Proofs.YtgepcbggkfjlgaaGreatDoor

theorem norm_snoc {l : List Wn} {w : Wn} (h : Norm l) (hw : w.1 < w.2) (hl : ∀ v ∈ l, v.2 < w.1) : Norm (l ++ [w]) := by
  refine ⟨fun v hv => ?_, ?_⟩
  · rcases List.mem_append.1 hv with hv | hv
    · exact h.1 v hv
    · rw [List.mem_singleton.1 hv]; exact hw
  · rw [List.pairwise_append]
    refine ⟨h.2, List.pairwise_singleton _ _, fun a ha b hb => ?_⟩
    rw [List.mem_singleton.1 hb]; exact hl a ha
/-- one window of the union: from where no gap is known, and the gaps so far -/
def gapS (e : Int) (st : Int × List Wn) (s : Wn) : Int × List Wn := (max st.1 s.2, if st.1 < min e s.1 then st.2 ++ [(st.1, min e s.1)] else st.2)
def gapE (e : Int) (st : Int × List Wn) : List Wn := if st.1 < e then st.2 ++ [(st.1, e)] else st.2
def gapP (t e : Int) (U : List Wn) : List Wn := gapE e (U.foldl (gapS e) (t, []))
/-- what stands behind the windows of P -/
structure GapI (t e : Int) (P : List Wn) (st : Int × List Wn) : Prop where
  low : t ≤ st.1
  is_ : st.1 = t ∨ ∃ v ∈ P, v.2 = st.1
  nrm : Norm st.2
  end_ : ∀ v ∈ st.2, v.2 < st.1
  top : ∀ s ∈ P, s.2 ≤ st.1
  cvr : ∀ x, cov st.2 x ↔ t ≤ x ∧ x < e ∧ x < st.1 ∧ ¬ cov P x
theorem gapI_nil (t e : Int) : GapI t e [] (t, []) :=
  ⟨Int.le_refl _, .inl rfl, norm_nil, fun v h => (by cases h), fun v h => (by cases h), fun x => ⟨fun h => absurd h (cov_nil x), fun ⟨h1, _, h3, _⟩ => absurd h3 (by show ¬ x < t; omega)⟩⟩
theorem gapI_step {t e : Int} {P : List Wn} {st : Int × List Wn} {s : Wn} (h : GapI t e P st) (hs : s.1 < s.2) (hp : ∀ v ∈ P, v.2 < s.1) : GapI t e (P ++ [s]) (gapS e st s) := by
  obtain ⟨r, g⟩ := st
  obtain ⟨h1, h0, h2, h3, h4, h5⟩ := h
  dsimp only at h1 h0 h2 h3 h4 h5
  have hrs : r = t ∨ r < s.1 := by
    rcases h0 with q | ⟨v, hv, q⟩
    · exact .inl q
    · have := hp v hv; exact .inr (by omega)
  unfold gapS
  dsimp only
  have hcov : ∀ x, s.1 ≤ x → ¬ cov P x := fun x hx ⟨v, hv, k1, k2⟩ => by have := hp v hv; omega
  have hcr : ∀ x, r ≤ x → ¬ cov P x := fun x hx ⟨v, hv, k1, k2⟩ => by have := h4 v hv; omega
  refine ⟨by dsimp only; omega, ?_, ?_, fun v hv => ?_, fun v hv => ?_, fun x => ?_⟩
  · dsimp only
    rcases Int.lt_or_le r s.2 with q | q
    · exact .inr ⟨s, by simp, by omega⟩
    · rcases h0 with k | ⟨v, hv, k⟩
      · exact .inl (by omega)
      · exact .inr ⟨v, List.mem_append_left _ hv, by omega⟩
  · dsimp only
    split
    · next hlt => exact norm_snoc h2 hlt h3
    · exact h2
  · dsimp only at hv ⊢
    split at hv
    · next hlt =>
      rcases List.mem_append.1 hv with hv | hv
      · have := h3 v hv; omega
      · rw [List.mem_singleton.1 hv]; dsimp only; omega
    · have := h3 v hv; omega
  · dsimp only
    rcases List.mem_append.1 hv with hv | hv
    · have := h4 v hv; omega
    · rw [List.mem_singleton.1 hv]; omega
  · dsimp only
    rw [cov_append, cov_one]
    split
    · next hlt =>
      rw [cov_append, cov_one, h5 x]
      dsimp only
      constructor
      · rintro (⟨a, b, c, d⟩ | ⟨a, b⟩)
        · exact ⟨a, b, by omega, fun k => by rcases k with k | k; · exact d k
                                             · omega⟩
        · exact ⟨by omega, by omega, by omega, fun k => by rcases k with k | k; · exact hcr x a k
                                                           · omega⟩
      · rintro ⟨a, b, c, d⟩
        by_cases hx : x < r
        · exact .inl ⟨a, b, hx, fun k => d (.inl k)⟩
        · refine .inr ⟨by omega, ?_⟩
          by_cases hx2 : x < s.1
          · omega
          · exact absurd (.inr ⟨by omega, by omega⟩) d
    · next hlt =>
      rw [h5 x]
      constructor
      · rintro ⟨a, b, c, d⟩
        refine ⟨a, b, by omega, fun k => ?_⟩
        rcases k with k | k
        · exact d k
        · omega
      · rintro ⟨a, b, c, d⟩
        have : ¬ (s.1 ≤ x ∧ x < s.2) := fun k => d (.inr k)
        exact ⟨a, b, by omega, fun k => d (.inl k)⟩
theorem gapI_fold {t e : Int} : ∀ {R P : List Wn} {st : Int × List Wn}, GapI t e P st → Norm (P ++ R) → GapI t e (P ++ R) (R.foldl (gapS e) st)
  | [], P, st, h, hn => by rw [List.append_nil]; exact h
  | s :: R, P, st, h, hn => by
    have e1 : P ++ s :: R = P ++ [s] ++ R := by simp
    rw [e1] at hn ⊢
    refine gapI_fold (gapI_step h (hn.1 s (by simp)) fun v hv => ?_) hn
    exact (List.pairwise_append.1 (List.pairwise_append.1 hn.2).1).2.2 v hv s (by simp)
theorem gapP_ok {t e : Int} {U : List Wn} (hU : Norm U) : Norm (gapP t e U) ∧ ∀ x, cov (gapP t e U) x ↔ t ≤ x ∧ x < e ∧ ¬ cov U x := by
  have h := gapI_fold (gapI_nil t e) (R := U) (P := []) (by simpa using hU)
  rw [List.nil_append] at h
  unfold gapP gapE
  generalize U.foldl (gapS e) (t, []) = st at h ⊢
  obtain ⟨r, g⟩ := st
  obtain ⟨h1, h0, h2, h3, h4, h5⟩ := h
  dsimp only at h1 h0 h2 h3 h4 h5 ⊢
  have hcr : ∀ x, r ≤ x → ¬ cov U x := fun x hx ⟨v, hv, k1, k2⟩ => by have := h4 v hv; omega
  split
  · next hlt =>
    refine ⟨norm_snoc h2 hlt h3, fun x => ?_⟩
    rw [cov_append, cov_one, h5 x]
    dsimp only
    constructor
    · rintro (⟨a, b, c, d⟩ | ⟨a, b⟩)
      · exact ⟨a, b, d⟩
      · exact ⟨by omega, b, hcr x a⟩
    · rintro ⟨a, b, d⟩
      by_cases hx : x < r
      · exact .inl ⟨a, b, hx, d⟩
      · exact .inr ⟨by omega, b⟩
  · next hlt =>
    refine ⟨h2, fun x => ?_⟩
    rw [h5 x]
    exact ⟨fun ⟨a, b, c, d⟩ => ⟨a, b, d⟩, fun ⟨a, b, d⟩ => ⟨a, b, by omega, d⟩⟩
/-! ### the sweep -/
/-- how far the windows that begin at t or before reach, and where the next one begins -/
def untS (t : Int) (a : Int) (s : Wn) : Int := if s.1 ≤ t ∧ a < s.2 then s.2 else a
def nxtS (t : Int) (a : Int) (s : Wn) : Int := if t < s.1 ∧ s.1 < s.2 ∧ s.1 < a then s.1 else a
def untL (t : Int) (L : List Wn) : Int := L.foldl (untS t) t
def nxtL (t e : Int) (L : List Wn) : Int := L.foldl (nxtS t) e
theorem unt_fold (t : Int) : ∀ (L : List Wn) (a : Int), t ≤ a → a ≤ L.foldl (untS t) a ∧ (L.foldl (untS t) a = a ∨ ∃ s ∈ L, s.1 ≤ t ∧ s.2 = L.foldl (untS t) a) ∧ ∀ s ∈ L, s.1 ≤ t → s.2 ≤ L.foldl (untS t) a
  | [], a, h => ⟨Int.le_refl _, .inl rfl, fun s hs => (by cases hs)⟩
  | s :: L, a, h => by
    rw [List.foldl_cons]
    obtain ⟨k1, k2, k3⟩ := unt_fold t L (untS t a s) (by unfold untS; split <;> omega)
    have hu : a ≤ untS t a s ∧ (s.1 ≤ t → s.2 ≤ untS t a s) ∧ (untS t a s = a ∨ (s.1 ≤ t ∧ s.2 = untS t a s)) := by unfold untS; split <;> omega
    refine ⟨by omega, ?_, fun v hv hv1 => ?_⟩
    · rcases k2 with k2 | ⟨v, hv, k2, k4⟩
      · rcases hu.2.2 with q | ⟨q1, q2⟩
        · exact .inl (by rw [k2, q])
        · exact .inr ⟨s, by simp, q1, by rw [k2]; exact q2⟩
      · exact .inr ⟨v, List.mem_cons_of_mem _ hv, k2, k4⟩
    · rcases List.mem_cons.1 hv with rfl | hv
      · have := hu.2.1 hv1; omega
      · exact k3 v hv hv1
theorem nxt_fold (t : Int) : ∀ (L : List Wn) (a : Int), L.foldl (nxtS t) a ≤ a ∧ (L.foldl (nxtS t) a = a ∨ ∃ s ∈ L, t < s.1 ∧ s.1 < s.2 ∧ s.1 = L.foldl (nxtS t) a) ∧ ∀ s ∈ L, t < s.1 → s.1 < s.2 → L.foldl (nxtS t) a ≤ s.1
  | [], a => ⟨Int.le_refl _, .inl rfl, fun s hs => (by cases hs)⟩
  | s :: L, a => by
    rw [List.foldl_cons]
    obtain ⟨k1, k2, k3⟩ := nxt_fold t L (nxtS t a s)
    have hu : nxtS t a s ≤ a ∧ (t < s.1 → s.1 < s.2 → nxtS t a s ≤ s.1) ∧ (nxtS t a s = a ∨ (t < s.1 ∧ s.1 < s.2 ∧ s.1 = nxtS t a s)) := by unfold nxtS; split <;> omega
    refine ⟨by omega, ?_, fun v hv hv1 hv2 => ?_⟩
    · rcases k2 with k2 | ⟨v, hv, k2, k4, k5⟩
      · rcases hu.2.2 with q | ⟨q1, q2, q3⟩
        · exact .inl (by rw [k2, q])
        · exact .inr ⟨s, by simp, q1, q2, by rw [k2]; exact q3⟩
      · exact .inr ⟨v, List.mem_cons_of_mem _ hv, k2, k4, k5⟩
    · rcases List.mem_cons.1 hv with rfl | hv
      · have := hu.2.1 hv1 hv2; omega
      · exact k3 v hv hv1 hv2
/-- the sweep from t0, come to t -/
structure SwpI (t0 e : Int) (L : List Wn) (t : Int) (g : List Wn) : Prop where
  low : t0 ≤ t
  nrm : Norm g
  end_ : ∀ v ∈ g, v.2 < t ∨ (v.2 = t ∧ (e ≤ t ∨ t < untL t L))
  cvr : ∀ x, cov g x ↔ t0 ≤ x ∧ x < e ∧ x < t ∧ ¬ cov L x
theorem swpI_nil (t e : Int) (L : List Wn) : SwpI t e L t [] :=
  ⟨Int.le_refl _, norm_nil, fun v h => (by cases h), fun x => ⟨fun h => absurd h (cov_nil x), fun ⟨h1, _, h3, _⟩ => absurd h3 (by omega)⟩⟩
theorem swpI_unt {t0 e t : Int} {L g : List Wn} (h : SwpI t0 e L t g) (hlt : t < e) (hu : t < untL t L) : SwpI t0 e L (untL t L) g := by
  obtain ⟨h1, h2, h3, h4⟩ := h
  obtain ⟨u1, u2, u3⟩ := unt_fold t L t (Int.le_refl _)
  change t ≤ untL t L at u1
  change untL t L = t ∨ _ at u2
  refine ⟨by omega, h2, fun v hv => .inl ?_, fun x => ?_⟩
  · rcases h3 v hv with k | ⟨k, _⟩ <;> omega
  · rw [h4 x]
    constructor
    · rintro ⟨a, b, c, d⟩; exact ⟨a, b, by omega, d⟩
    · rintro ⟨a, b, c, d⟩
      refine ⟨a, b, ?_, d⟩
      rcases u2 with u2 | ⟨s, hs, k1, k2⟩
      · omega
      · rcases Int.lt_or_le x t with q | q
        · exact q
        · exact absurd ⟨s, hs, by omega, by show x < s.2; rw [k2]; exact c⟩ d
theorem swpI_nxt {t0 e t : Int} {L g : List Wn} (h : SwpI t0 e L t g) (hlt : t < e) (hu : ¬ t < untL t L) : SwpI t0 e L (nxtL t e L) (g ++ [(t, nxtL t e L)]) ∧ t < nxtL t e L := by
  obtain ⟨h1, h2, h3, h4⟩ := h
  obtain ⟨u1, u2, u3⟩ := unt_fold t L t (Int.le_refl _)
  obtain ⟨n1, n2, n3⟩ := nxt_fold t L e
  change t ≤ untL t L at u1
  change ∀ s ∈ L, s.1 ≤ t → s.2 ≤ untL t L at u3
  change nxtL t e L ≤ e at n1
  change nxtL t e L = e ∨ _ at n2
  change ∀ s ∈ L, t < s.1 → s.1 < s.2 → nxtL t e L ≤ s.1 at n3
  have htn : t < nxtL t e L := by
    rcases n2 with n2 | ⟨s, hs, k1, k2, k3⟩
    · omega
    · change s.1 = nxtL t e L at k3; omega
  have hcov : ∀ x, t ≤ x → x < nxtL t e L → ¬ cov L x := fun x hx hx2 ⟨s, hs, k1, k2⟩ => by
    rcases Int.lt_or_le t s.1 with q | q
    · have := n3 s hs q (by omega); omega
    · have := u3 s hs q; omega
  refine ⟨⟨by omega, norm_snoc h2 htn fun v hv => ?_, fun v hv => ?_, fun x => ?_⟩, htn⟩
  · rcases h3 v hv with k | ⟨k, q | q⟩
    · exact k
    · omega
    · exact absurd q hu
  · rcases List.mem_append.1 hv with hv | hv
    · left; rcases h3 v hv with k | ⟨k, _⟩ <;> omega
    · rw [List.mem_singleton.1 hv]
      right
      refine ⟨rfl, ?_⟩
      rcases n2 with n2 | ⟨s, hs, k1, k2, k3⟩
      · left; omega
      · change s.1 = nxtL t e L at k3
        right
        have := (unt_fold (nxtL t e L) L (nxtL t e L) (Int.le_refl _)).2.2 s hs (by omega)
        change s.2 ≤ untL (nxtL t e L) L at this
        omega
  · rw [cov_append, cov_one, h4 x]
    dsimp only
    constructor
    · rintro (⟨a, b, c, d⟩ | ⟨a, b⟩)
      · exact ⟨a, b, by omega, d⟩
      · exact ⟨by omega, by omega, b, hcov x a b⟩
    · rintro ⟨a, b, c, d⟩
      rcases Int.lt_or_le x t with q | q
      · exact .inl ⟨a, b, q, d⟩
      · exact .inr ⟨q, c⟩
/-- both are the same list -/
theorem swp_gap {t e t' : Int} {L g : List Wn} (h : SwpI t e L t' g) (ht : e ≤ t') : g = gapP t e (unionW L) := by
  obtain ⟨u1, u2⟩ := union_ok L
  obtain ⟨p1, p2⟩ := gapP_ok (t := t) (e := e) u1
  refine norm_unique _ _ h.nrm p1 fun y => ?_
  rw [h.cvr y, p2 y, u2 y]
  exact ⟨fun ⟨a, b, c, d⟩ => ⟨a, b, d⟩, fun ⟨a, b, d⟩ => ⟨a, b, by omega, d⟩⟩
end Go.Proofs.YtgepcbggkfjlgaaGreatDoor
end
