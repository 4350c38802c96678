/-
  Texts of the schema layer and of those beneath it, joined: EntRdf. Conditions stand at each contract.
-/
import Derived.Test.YtmmdaegdkikkpaaGreatDoorR22
set_option linter.unusedVariables false
set_option linter.unusedSimpArgs false
set_option linter.unnecessarySimpa false

section
set_option maxRecDepth 100000
namespace Go.Proofs.YtmmdaegdkikkpaaGreatDoor
open Go.RowKit Go.PlainAid
theorem step_push_mod {ops : Array Oper} {o : Oper} {a : Act} {K : Act → World → Prop} {Q : Exit → Act → World → Prop} {E : Prop} (wr : World) {base : Nat} {v : Value} {n : Nat} {xs : List Value} (hown : wr.ownsRow base 102 3 v n xs) (s x : Operand)
  (op : Int) (nm : ByteArray) (hd : Value) (hone : hd.oneCell' = true) (hgd : o.guard = none)
  (ho : o.op = .call { callee := .builtin .append, args := #[s, x], argTypes := #[44, 44] })
  (hs : a.eval s = v) (hx : a.eval x = .slice (some ⟨wr.heap.size, 0, none⟩) 1 1) (hn : n + 1 ≤ 1000000000) (hbase : base ≤ wr.heap.size)
  (h : ∀ v' w', w'.ownsRow base 102 3 v' (n + 1) (xs ++ [.int .i64 op, .string nm, hd]) → (wr.alloc (.cells #[.int .i64 op, .string nm, hd] 102)).grownBy w' v.ownBlock → (v'.ownBlock = v.ownBlock ∨ ∃ g, v'.ownBlock = some g ∧ wr.heap.size < g) → K (a.put o.dst v') w') :
  if Region.wanted o (yielded ops a.tmps) = true then Oper.wp Tryz.prog o a (wr.alloc (.cells #[.int .i64 op, .string nm, hd] 102)) K Q else E := by
 obtain ⟨i0, hi, hz0, hz1, hz2⟩ := info_parts info_mod
 refine step_append_own_at hgd s x 44 ho base 102 i0 (.agg #[.int .i64 0, .string ⟨#[]⟩, .slice none 0 0]) 3 48 Tryz.underlying44 hi hz0 hz1 hz2 rfl (by decide) v n xs hs (hown.alloc _) ⟨wr.heap.size, 0, none⟩ 1 1 [.int .i64 op, .string nm, hd] hx rfl
  (fun j u hj => ?_) (by intro u hu; simp at hu; rcases hu with rfl | rfl | rfl; rfl; rfl; exact hone) (by unfold maxLen; omega) (by omega) (by simp; omega) ?_
 ·have hb := heap_alloc_new wr (.cells #[.int .i64 op, .string nm, hd] 102)
  match j, hj with
  | 0, hj => cases hj; exact heap_cell hb rfl
  | 1, hj => cases hj; exact heap_cell hb rfl
  | 2, hj => cases hj; exact heap_cell hb rfl
  | k + 3, hj => simp at hj
 ·intro v' w' h1 h2 h3
  exact h v' w' h1 h2 (h3.imp id fun e => ⟨_, e, by simp⟩)
theorem at_drop {l : List At} {i : Nat} (h : i < l.length) : l.drop i = atD l i :: l.drop (i + 1) := by
 rw [List.drop_eq_getElem_cons h, at_get l i h]
theorem asc_nf (l : List At) : Asc ((nf l).map (·.1)) := by rw [nf_names]; exact sortU_asc _
theorem asc_drop {X : List At} (h : Asc (X.map (·.1))) (i : Nat) : Asc ((X.drop i).map (·.1)) := by rw [List.map_drop]; exact List.Pairwise.sublist (List.drop_sublist _ _) h
theorem nf_full {l : List At} {i : Nat} (h : i < (nf l).length) : (atD (nf l) i).2.length ≠ 0 := fun e => (nf_mem.1 (at_mem (nf l) i h)).2 (List.length_eq_zero_iff.1 e)
theorem mrg_lt {X Y : List At} {i k : Nat} (hX : Asc (X.map (·.1))) (hY : Asc (Y.map (·.1))) (hi : i < X.length) (hc : k < Y.length → cmpS (atD X i).1 (atD Y k).1 < 0) :
  mrg (X.drop i) (Y.drop k) = [⟨2, (atD X i).1, []⟩] ++ mrg (X.drop (i + 1)) (Y.drop k) := by
 have h1 := asc_drop hX i
 rw [at_drop hi] at h1 ⊢
 rw [mrg_left h1, dif1_gone]
 by_cases hk : k < Y.length
 ·have h2 := asc_drop hY k
  rw [at_drop hk] at h2 ⊢
  intro z hz
  rcases List.mem_cons.1 hz with e | e
  ·rw [e]; exact hc hk
  ·exact cs_trans (hc hk) ((asc_head h2).1 z e)
 ·rw [List.drop_eq_nil_of_le (Nat.le_of_not_lt hk)]
  intro z hz; cases hz
theorem mrg_gt {X Y : List At} {i k : Nat} (hX : Asc (X.map (·.1))) (hY : Asc (Y.map (·.1))) (hk : k < Y.length) (hn : (atD Y k).2.length ≠ 0) (hc : i < X.length → cmpS (atD Y k).1 (atD X i).1 < 0) :
  mrg (X.drop i) (Y.drop k) = [⟨1, (atD Y k).1, (atD Y k).2⟩] ++ mrg (X.drop i) (Y.drop (k + 1)) := by
 have h1 := asc_drop hY k
 rw [at_drop hk] at h1 ⊢
 rw [mrg_right h1, dif1_new hn]
 by_cases hi : i < X.length
 ·have h2 := asc_drop hX i
  rw [at_drop hi] at h2 ⊢
  intro z hz
  rcases List.mem_cons.1 hz with e | e
  ·rw [e]; exact hc hi
  ·exact cs_trans (hc hi) ((asc_head h2).1 z e)
 ·rw [List.drop_eq_nil_of_le (Nat.le_of_not_lt hi)]
  intro z hz; cases hz
theorem mrg_eq {X Y : List At} {i k : Nat} (hX : Asc (X.map (·.1))) (hY : Asc (Y.map (·.1))) (hi : i < X.length) (hk : k < Y.length) (e : (atD X i).1 = (atD Y k).1) :
  mrg (X.drop i) (Y.drop k) = dif1 (atD Y k).1 (atD X i).2 (atD Y k).2 ++ mrg (X.drop (i + 1)) (Y.drop (k + 1)) := by
 have h1 := asc_drop hX i
 have h2 := asc_drop hY k
 rw [at_drop hi] at h1 ⊢
 rw [at_drop hk] at h2 ⊢
 exact mrg_both h1 h2 e
theorem mmds_snoc (T : List Mv) (t : Mv) : mmds (T ++ [t]) = mmds T ++ [t.md] := by simp [mmds]
def RdI (w wL : World) (X Y : List At) (D : List Md) (i k : Nat) (v : Value) (wr : World) : Prop :=
 ∃ T, RvI w wL v T wr ∧ mmds T ++ mrg (X.drop i) (Y.drop k) = D ∧ T.length ≤ 2 * (i + k)
theorem RvI.fresh {w wL W : World} {v : Value} {T : List Mv} (h : RvI w wL v T W) {V : World} {u : Value} {n base : Nat} {xs : List Value} {e : TypeId} {size : Nat} (k : V.ownsRow base e size u n xs) (hb : W.heap.size ≤ base) : u.ownBlock = none ∨ u.ownBlock ≠ v.ownBlock := by
 cases hu : u.ownBlock with
 | none => exact .inl rfl
 | some g => exact .inr fun q => by have := (k.lt g hu).1; have := (h.row.lt g q.symm).2; omega
theorem row_push {W w' : World} {v v' hd : Value} {b n : Nat} {xs : List Value} (hh : W.ownsRow b 9 1 hd n xs) (hne : hd.ownBlock = none ∨ hd.ownBlock ≠ v.ownBlock) (o : Obj) (hg : (W.alloc o).grownBy w' v.ownBlock) (hl : v'.ownBlock = v.ownBlock ∨ ∃ g, v'.ownBlock = some g ∧ W.heap.size < g) :
  w'.ownsRow b 9 1 hd n xs ∧ (hd.ownBlock = none ∨ hd.ownBlock ≠ v'.ownBlock) := by
 refine ⟨(own_below hh (below_al W o)).kept hg hne, ?_⟩
 cases hk : hd.ownBlock with
 | none => exact .inl rfl
 | some k =>
  refine .inr fun e => ?_
  have hlt := (hh.lt k hk).2
  rcases hl with q | ⟨g, q, hq⟩
  ·rw [hk] at hne
   rcases hne with c | c
   ·cases c
   ·exact c (e.trans q)
  ·have := Option.some.inj (e.trans q); omega
theorem own_drew {W : World} {b : Nat} {e : TypeId} {s : Nat} {v : Value} {n : Nat} {xs : List Value} (h : W.ownsRow b e s v n xs) : W.drew.ownsRow b e s v n xs := own_below h (Below.refl _ W).drew
set_option maxHeartbeats 16000000 in
theorem rdiff_s (ea : ByteArray) (ao : Option Addr) (n cap : Nat) (a : List At) (eb : ByteArray) (bo : Option Addr) (m dap : Nat) (b : List At) (w : World) (hea : ea.size ≤ 1100000) (heb : eb.size ≤ 1100000) (ha : AttrsAt w ao n cap a) (hb : AttrsAt w bo m dap b) (hSa : SmallA a) (hSb : SmallA b) :
  Calls Tryz.prog 33 #[.agg #[.string ea, .slice ao n cap], .agg #[.string eb, .slice bo m dap]] w fun e w' => DvP (enD ea a eb b) w e w' := by
 have HA := Lib.hid ha
 have HO := Lib.hid hb
 clear ha hb
 have hb0 : Below w.heap.size w ((w.alloc (.cells #[.string ea, .slice ao n cap] 37)).alloc (.cells #[.string eb, .slice bo m dap] 37)) := (below_al w _).alloc (by simp) _
 have HK := Lib.hid (And.intro ((kbl_new w (.cells #[.string ea, .slice ao n cap] 37)).step (below_al _ (.cells #[.string eb, .slice bo m dap] 37)))
  (show Kb ((w.alloc (.cells #[.string ea, .slice ao n cap] 37)).alloc (.cells #[.string eb, .slice bo m dap] 37)) (w.heap.size + 1) (.cells #[.string eb, .slice bo m dap] 37) by
   have := kbl_new (w.alloc (.cells #[.string ea, .slice ao n cap] 37)) (.cells #[.string eb, .slice bo m dap] 37)
   simpa using this))
 have HC1 := Lib.hid (rEnCheck_s ea ao n cap a _ hea (HA.out.below hb0) hSa)
 have HC2 := Lib.hid (fun (V : World) (hV : Below w.heap.size w V) => rEnCheck_s eb bo m dap b V heb (HO.out.below hV) hSb)
 have HB0 := Lib.hid hb0
 obtain ⟨c1, hc1⟩ : ∃ c, enC ea a = c := ⟨_, rfl⟩
 obtain ⟨c2, hc2⟩ : ∃ c, enC eb b = c := ⟨_, rfl⟩
 rw [hc1] at HC1
 rw [hc2] at HC2
 have HE := Lib.hid (And.intro hc1 hc2)
 obtain ⟨x0, x1⟩ : ((w.alloc (.cells #[.string ea, .slice ao n cap] 37)).alloc (.cells #[.string eb, .slice bo m dap] 37)).cell? ⟨w.heap.size, 0, none⟩ = some (.string ea) ∧ ((w.alloc (.cells #[.string ea, .slice ao n cap] 37)).alloc (.cells #[.string eb, .slice bo m dap] 37)).cell? ⟨w.heap.size, 1, none⟩ = some (.slice ao n cap) := ⟨HK.out.1.cell rfl, HK.out.1.cell rfl⟩
 clear hb0 hc1 hc2
 go_enter Tryz.func33, Tryz.ntmps33
 go_wp2_with fail
 refine HC1.out.mono ?_
 rintro e w1 ⟨rfl, hb⟩
 have HB1 := Lib.hid (HB0.out.trans (hb.mono HB0.out.size))
 have HK1 := Lib.hid (And.intro (HK.out.1.step hb) (HK.out.2.step hb))
 clear hb x0 x1 HC1 HB0 HK
 by_cases h1 : c1 = 0
 ·subst h1
  obtain ⟨y0, y1⟩ : w1.cell? ⟨w.heap.size + 1, 0, none⟩ = some (.string eb) ∧ w1.cell? ⟨w.heap.size + 1, 1, none⟩ = some (.slice bo m dap) := ⟨HK1.out.2.cell rfl, HK1.out.2.cell rfl⟩
  go_wp2_with fail
  refine (HC2.out w1 HB1.out).mono ?_
  rintro e w2 ⟨rfl, hb⟩
  have HB2 := Lib.hid (HB1.out.trans (hb.mono HB1.out.size))
  have HK2 := Lib.hid (And.intro (HK1.out.1.step hb) (HK1.out.2.step hb))
  clear hb y0 y1 HC2 HB1 HK1
  by_cases h2 : c2 = 0
  ·subst h2
   have HLa := Lib.hid (chk_light (chk_of HE.out.1))
   have HLb := Lib.hid (chk_light (chk_of HE.out.2))
   have HNa := Lib.hid (chk_light (nf_chk (chk_of HE.out.1)))
   have HNb := Lib.hid (chk_light (nf_chk (chk_of HE.out.2)))
   obtain ⟨x1, y1⟩ : w2.cell? ⟨w.heap.size, 1, none⟩ = some (.slice ao n cap) ∧ w2.cell? ⟨w.heap.size + 1, 1, none⟩ = some (.slice bo m dap) := ⟨HK2.out.1.cell rfl, HK2.out.2.cell rfl⟩
   have HBd : Hid (Below w.heap.size w w2.drew ∧ w.heap.size ≤ w2.drew.heap.size) := Lib.hid ⟨HB2.out.drew, HB2.out.size⟩
   have hs2 : w.heap.size ≤ w2.heap.size := HB2.out.size
   have hna : n ≤ 40 := by have h := HLa.out.len; rw [HA.out.1] at h; exact h
   have hnb : m ≤ 40 := by have h := HLb.out.len; rw [HO.out.1] at h; exact h
   go_wp2_with fail
   refine wp_region_held_drew (S := fun W => W.cell? ⟨w.heap.size, 1, none⟩ = some (.slice ao n cap) ∧ W.cell? ⟨w.heap.size + 1, 1, none⟩ = some (.slice bo m dap) ∧ Hid (Below w.heap.size w W ∧ w.heap.size ≤ W.heap.size)) (by kernel_rfl) (⟨x1, y1, HBd⟩) (fun hS => ?_)
   refine rgT 0 (some 20) ?_
   refine rgT 1 (some 21) ?_
   refine rgT 3 (some 23) ?_
   refine rgT 4 (some 24) ?_
   refine rgC 2 (fun K hK => ?_)
   go_simp
   refine (rsorted_s ao n cap a _ (HA.out.below HBd.out.1) HLa.out.small HLa.out.few.vals (by omega)).mono ?_
   rintro e w5 ⟨v5, T5, rfl, hT5, hO5, hR5, hb5⟩
   obtain ⟨xo, xc, rfl⟩ := row_slice hR5
   have HX := Lib.hid (show SoA w.heap.size (.slice xo T5.length xc) T5 (nf a) w5 from ⟨row_lower hR5 HBd.out.2, hO5.mono HBd.out.2, hT5⟩)
   have HBe := Lib.hid (HBd.out.1.trans (hb5.mono HBd.out.2))
   clear hT5 hO5 hR5
   go_wp2_with fail
   refine hK.out _ _ ?_ (fun hHeld => ?_)
   ·exact keep2b (by assumption) hb5
   clear hK K
   try simp only [Act.put, lsA, lsZ, lsS]
   refine rgC 5 (fun K hK => ?_)
   go_simp
   refine (rsorted_s bo m dap b _ (HO.out.below HBe.out) HLb.out.small HLb.out.few.vals (by omega)).mono ?_
   rintro e w6 ⟨v6, T6, rfl, hT6, hO6, hR6, hb6⟩
   obtain ⟨yo, yc, rfl⟩ := row_slice hR6
   have HY := Lib.hid (show SoA w.heap.size (.slice yo T6.length yc) T6 (nf b) w6 from ⟨row_lower hR6 HBe.out.size, hO6.mono HBe.out.size, hT6⟩)
   clear hT6 hO6 hR6
   go_wp2_with fail
   refine hK.out _ _ ?_ (fun hHeld => ?_)
   ·exact keep2b (by assumption) hb6
   clear hK K
   try simp only [Act.put, lsA, lsZ, lsS]
   refine rgT 6 (some 5) ?_
   refine rgT 7 (some 6) ?_
   refine wpAnyH_done (by kernel_rfl) ?_ _
   have HX := Lib.hid (HX.out.below hb6)
   have HBL := Lib.hid (HBe.out.trans (hb6.mono HBe.out.size))
   have HXa := Lib.hid (asc_nf a)
   have HYa := Lib.hid (asc_nf b)
   have HYf := Lib.hid (fun i (h : i < (nf b).length) => nf_full (l := b) h)
   have HXf := Lib.hid (fun i (h : i < (nf a).length) => nf_full (l := a) h)
   have HD := Lib.hid (mrg_nf a b)
   obtain ⟨D, hD⟩ : ∃ x, difL a b = x := ⟨_, rfl⟩
   have HDe := Lib.hid hD
   rw [hD] at HD
   obtain ⟨X, hX⟩ : ∃ x, nf a = x := ⟨_, rfl⟩
   obtain ⟨Y, hY⟩ : ∃ x, nf b = x := ⟨_, rfl⟩
   rw [hX] at HX HXa HXf HD HNa
   rw [hY] at HY HYa HYf HD HNb
   have hXl : T5.length = X.length := by rw [← HX.out.is, tats_len]
   have hYl : T6.length = Y.length := by rw [← HY.out.is, tats_len]
   obtain ⟨p, hp⟩ : ∃ x, X.length = x := ⟨_, rfl⟩
   obtain ⟨q, hq⟩ : ∃ x, Y.length = x := ⟨_, rfl⟩
   rw [hXl, hp] at HX ⊢
   rw [hYl, hq] at HY ⊢
   have hp40 : p ≤ 40 := by rw [← hp]; exact HNa.out.len
   have hq40 : q ≤ 40 := by rw [← hq]; exact HNb.out.len
   have HXl := Lib.hid hp
   have HYl := Lib.hid hq
   obtain ⟨wL, hwL⟩ : ∃ x, w6 = x := ⟨_, rfl⟩
   rw [hwL] at HX HY HBL ⊢
   have hsL : w.heap.size ≤ wL.heap.size := HBL.out.size
   clear hD hX hY hXl hYl hp hq hb5 hb6 x1 y1 HBd HBe HK2 HB2 hs2 hna hnb hS hwL
   try clear hHeld
   have HI0 := Lib.hid (show RdI w wL X Y D 0 0 (.slice none 0 0) wL from ⟨[], RvI.nil (Below.refl _ _), HD.out, Nat.zero_le _⟩)
   clear HD
   go_wp2_with fail
   go_loopw [7, 8, 9, 10, 11] (fun s7 s8 s9 _ _ wr => ∃ (i k : Nat), i ≤ p ∧ k ≤ q ∧ s8 = .int .i64 i ∧ s9 = .int .i64 k ∧ Hid (RdI w wL X Y D i k s7 wr)) (fun _ s8 s9 _ _ _ => (p - (intOf s8).toNat) + (q - (intOf s9).toNat))
   case atStart => exact ⟨0, 0, Nat.zero_le _, Nat.zero_le _, rfl, rfl, HI0⟩
   case round =>
    clear HI0
    obtain ⟨i, k, hi, hk, rfl, rfl, HI⟩ := hrel
    obtain ⟨T, hRv, hmg, hTl⟩ := HI.out
    obtain ⟨lo, lc, rfl⟩ : ∃ lo lc, _ = Value.slice lo T.length lc := row_slice hRv.row
    have HRv := Lib.hid hRv
    have HMg := Lib.hid hmg
    clear hRv hmg HI
    by_cases hltx : i < p
    ·have dx : decide ((i : Int) < (p : Int)) = true := decide_eq_true (by omega)
     have dx1 : decide ((p : Int) ≤ (i : Int)) = false := decide_eq_false (by omega)
     have nx1 : decide (p ≤ i) = false := decide_eq_false (by omega)
     have ex : (i : Int) < (p : Int) := by omega
     have ex1 : ¬ (p : Int) ≤ (i : Int) := by omega
     have zx : (0 : Int) ≤ (i : Int) := by omega
     obtain ⟨gx, vox, vcx, rfl, c0x, c1x, hstx, hrwx⟩ := HX.out.at HXl.out hltx
     have HApx := Lib.hid (HRv.out.apart hrwx)
     have HRwx := Lib.hid hrwx
     have HAtx := Lib.hid (HNa.out.each (atD X i) (at_mem X i (by rw [HXl.out]; exact hltx)))
     have HStx := Lib.hid hstx
     have C0x := Lib.hid c0x
     have C1x := Lib.hid c1x
     have c0x := cell_later HRv.out.low c0x
     have c1x := cell_later HRv.out.low c1x
     clear hstx hrwx
     by_cases hlty : k < q
     ·have dy : decide ((k : Int) < (q : Int)) = true := decide_eq_true (by omega)
      have dy1 : decide ((q : Int) ≤ (k : Int)) = false := decide_eq_false (by omega)
      have ny1 : decide (q ≤ k) = false := decide_eq_false (by omega)
      have ey : (k : Int) < (q : Int) := by omega
      have ey1 : ¬ (q : Int) ≤ (k : Int) := by omega
      have zy : (0 : Int) ≤ (k : Int) := by omega
      obtain ⟨gy, voy, vcy, rfl, c0y, c1y, hsty, hrwy⟩ := HY.out.at HYl.out hlty
      have HApy := Lib.hid (HRv.out.apart hrwy)
      have HRwy := Lib.hid hrwy
      have HAty := Lib.hid (HNb.out.each (atD Y k) (at_mem Y k (by rw [HYl.out]; exact hlty)))
      have HSty := Lib.hid hsty
      have C0y := Lib.hid c0y
      have C1y := Lib.hid c1y
      have c0y := cell_later HRv.out.low c0y
      have c1y := cell_later HRv.out.low c1y
      clear hsty hrwy
      have hfull := HYf.out k (by rw [HYl.out]; exact hlty)
      have HLt := Lib.hid (fun (h : cmpS (atD X i).1 (atD Y k).1 < 0) => mrg_lt (i := i) (k := k) HXa.out HYa.out (by rw [HXl.out]; exact hltx) (fun _ => h))
      have HGt := Lib.hid (fun (h : cmpS (atD Y k).1 (atD X i).1 < 0) => mrg_gt (i := i) (k := k) HXa.out HYa.out (by rw [HYl.out]; exact hlty) hfull (fun _ => h))
      have HEq := Lib.hid (fun (h : (atD X i).1 = (atD Y k).1) => mrg_eq (i := i) (k := k) HXa.out HYa.out (by rw [HXl.out]; exact hltx) (by rw [HYl.out]; exact hlty) h)
      have hfx := HXf.out i (by rw [HXl.out]; exact hltx)
      obtain ⟨Ax, hAx⟩ : ∃ z, atD X i = z := ⟨_, rfl⟩
      have HAx := Lib.hid hAx
      obtain ⟨Ay, hAy⟩ : ∃ z, atD Y k = z := ⟨_, rfl⟩
      have HAy := Lib.hid hAy
      rw [hAx] at c0x c1x C0x C1x HStx HRwx HApx HAtx HLt HGt HEq hfx
      rw [hAy] at c0y c1y C0y C1y HSty HRwy HApy HAty HLt HGt HEq hfull
      clear hAx hAy
      obtain ⟨anx, avx⟩ := Ax
      obtain ⟨any, avy⟩ := Ay
      simp only at c0x c1x C0x C1x HStx HRwx HApx HAtx c0y c1y C0y C1y HSty HRwy HApy HAty HLt HGt HEq hfull hfx
      have hvx : avx.length ≤ 20 := HAtx.out.len
      have hvy : avy.length ≤ 20 := HAty.out.len
      rcases cs_tri anx any with lt | eq | gt
      ·have q1 : Op.bytesLess anx.toList any.toList = true := by rw [str_less]; exact decide_eq_true lt
       have HSt := Lib.hid (HLt.out lt)
       clear lt HLt HGt HEq
       go_wp2_with fail
       refine wp_region_held_drew (S := fun W => W.cell? ⟨gx, i * 2, none⟩ = some (.string anx) ∧ W.cell? ⟨gy, k * 2, none⟩ = some (.string any) ∧ True) (by kernel_rfl) (⟨c0x, c0y, trivial⟩) (fun hS => ?_)
       refine rgT 0 (some 36) ?_
       refine rgT 1 (some 37) ?_
       refine rgT 2 (some 38) ?_
       refine rgT 3 (some 39) ?_
       refine rgT 4 (some 40) ?_
       refine rgT 5 (some 41) ?_
       refine rgT 6 (some 42) ?_
       refine rgT 7 (some 43) ?_
       refine rgT 8 (some 44) ?_
       refine rgT 9 (some 45) ?_
       refine rgT 10 (some 46) ?_
       refine rgT 11 (some 47) ?_
       refine rgT 12 (some 48) ?_
       refine rgT 13 (some 49) ?_
       refine rgT 14 (some 50) ?_
       refine rgT 15 (some 51) ?_
       refine rgT 16 (some 52) ?_
       refine rgT 17 (some 53) ?_
       refine rgT 18 (some 54) ?_
       refine rgT 19 (some 55) ?_
       refine rgT 20 (some 56) ?_
       refine rgT 21 (some 57) ?_
       refine rgT 22 (some 58) ?_
       refine wpAnyH_done (by kernel_rfl) ?_ _
       have HRv := Lib.hid (HRv.out.below (Below.refl _ _).drew)
       have c0x := cell_later (Below.refl _ _).drew c0x
       have c1x := cell_later (Below.refl _ _).drew c1x
       have c0y := cell_later (Below.refl _ _).drew c0y
       have c1y := cell_later (Below.refl _ _).drew c1y
       obtain ⟨Z, hZ⟩ : ∃ z, wr.drew = z := ⟨_, rfl⟩
       rw [hZ] at HRv c0x c1x c0y c1y ⊢
       clear hZ hS
       go_wp2_with (at_builtin; go_must (refine push_mod _ HRv.out.row (.tmp 59) (.tmp 66) 2 anx (.slice none 0 0) rfl ?_ ?_ ?_ ?_ ?_ ?_ ?_; exact rfl; exact rfl; exact rfl; exact rfl; omega; exact HRv.out.low.size; intro v3 w3 g1 g2 g3; obtain ⟨vo3, vc3, rfl⟩ := row_slice g1; have HP3 := Lib.hid (HRv.out.push (vs := []) (World.ownsRow_nil _ _ _ _) (.inl rfl) _ g1 g2 g3); clear g1 g2 g3))
       go_wp2_with fail
       go_roundw
       case rel => exact ⟨i + 1, k, by omega, by omega, by go_num, by go_num, Lib.hid ⟨_, HP3.out, by rw [mmds_snoc, List.append_assoc]; rw [HSt.out] at HMg; exact HMg.out, by have := hTl; simp; omega⟩⟩
       case measure => simp [intOf]; omega
      ·have q1 : Op.bytesLess anx.toList any.toList = false := by rw [str_less, eq]; exact decide_eq_false (cs_irrefl _)
       have q2 : Op.bytesLess any.toList anx.toList = false := by rw [str_less, eq]; exact decide_eq_false (cs_irrefl _)
       have HSt := Lib.hid (HEq.out eq)
       clear HLt HGt HEq eq
       go_wp2_with fail
       refine wp_region_held_drew (S := fun W => W.cell? ⟨gx, i * 2, none⟩ = some (.string anx) ∧ W.cell? ⟨gy, k * 2, none⟩ = some (.string any) ∧ True) (by kernel_rfl) (⟨c0x, c0y, trivial⟩) (fun hS => ?_)
       refine rgT 0 (some 36) ?_
       refine rgT 1 (some 37) ?_
       refine rgT 2 (some 38) ?_
       refine rgT 3 (some 39) ?_
       refine rgT 4 (some 40) ?_
       refine rgT 5 (some 41) ?_
       refine rgT 6 (some 42) ?_
       refine rgT 7 (some 43) ?_
       refine rgT 8 (some 44) ?_
       refine rgT 9 (some 45) ?_
       refine rgT 10 (some 46) ?_
       refine rgT 11 (some 47) ?_
       refine rgT 12 (some 48) ?_
       refine rgT 13 (some 49) ?_
       refine rgT 14 (some 50) ?_
       refine rgT 15 (some 51) ?_
       refine rgT 16 (some 52) ?_
       refine rgT 17 (some 53) ?_
       refine rgT 18 (some 54) ?_
       refine rgT 19 (some 55) ?_
       refine rgT 20 (some 56) ?_
       refine rgT 21 (some 57) ?_
       refine rgT 22 (some 58) ?_
       refine wpAnyH_done (by kernel_rfl) ?_ _
       have HRv := Lib.hid (HRv.out.below (Below.refl _ _).drew)
       have c0x := cell_later (Below.refl _ _).drew c0x
       have c1x := cell_later (Below.refl _ _).drew c1x
       have c0y := cell_later (Below.refl _ _).drew c0y
       have c1y := cell_later (Below.refl _ _).drew c1y
       obtain ⟨Z, hZ⟩ : ∃ z, wr.drew = z := ⟨_, rfl⟩
       rw [hZ] at HRv c0x c1x c0y c1y ⊢
       clear hZ hS
       go_wp2_with fail
       refine wp_region_held_drew (S := fun W => W.cell? ⟨gx, i * 2, none⟩ = some (.string anx) ∧ W.cell? ⟨gy, k * 2, none⟩ = some (.string any) ∧ True) (by kernel_rfl) (⟨c0x, c0y, trivial⟩) (fun hS => ?_)
       refine rgT 0 (some 70) ?_
       refine rgT 1 (some 71) ?_
       refine rgT 2 (some 72) ?_
       refine rgT 3 (some 73) ?_
       refine rgT 4 (some 74) ?_
       refine rgT 5 (some 75) ?_
       refine rgT 6 (some 76) ?_
       refine rgT 7 (some 77) ?_
       refine rgT 8 (some 78) ?_
       refine rgT 9 (some 79) ?_
       refine rgT 10 (some 80) ?_
       refine rgT 11 (some 81) ?_
       refine rgT 12 (some 82) ?_
       refine rgT 13 (some 83) ?_
       refine rgT 14 (some 84) ?_
       refine rgT 15 (some 85) ?_
       refine rgT 16 (some 86) ?_
       refine wpAnyH_done (by kernel_rfl) ?_ _
       have HRv := Lib.hid (HRv.out.below (Below.refl _ _).drew)
       have c0x := cell_later (Below.refl _ _).drew c0x
       have c1x := cell_later (Below.refl _ _).drew c1x
       have c0y := cell_later (Below.refl _ _).drew c0y
       have c1y := cell_later (Below.refl _ _).drew c1y
       obtain ⟨Z, hZ⟩ : ∃ z, Z.drew = z := ⟨_, rfl⟩
       rw [hZ] at HRv c0x c1x c0y c1y ⊢
       clear hZ hS
       have HBd : Hid (Below Z.heap.size Z Z.drew ∧ Z.heap.size ≤ Z.drew.heap.size) := Lib.hid ⟨(Below.refl _ _).drew, Nat.le_refl _⟩
       have HSx := Lib.hid (HStx.out.below HRv.out.low)
       have HSy := Lib.hid (HSty.out.below HRv.out.low)
       go_wp2_with fail
       refine wp_region_held_drew (S := fun W => W.cell? ⟨gx, i * 2 + 1, none⟩ = some (.slice vox avx.length vcx) ∧ W.cell? ⟨gy, k * 2 + 1, none⟩ = some (.slice voy avy.length vcy) ∧ Hid (Below Z.heap.size Z W ∧ Z.heap.size ≤ W.heap.size)) (by kernel_rfl) (⟨c1x, c1y, HBd⟩) (fun hS => ?_)
       refine rgT 0 (some 103) ?_
       refine rgT 1 (some 104) ?_
       refine rgT 2 (some 105) ?_
       refine rgT 3 (some 106) ?_
       refine rgT 4 (some 107) ?_
       refine rgT 5 (some 108) ?_
       refine rgT 6 (some 109) ?_
       refine rgT 7 (some 110) ?_
       refine rgT 8 (some 111) ?_
       refine rgT 9 (some 112) ?_
       refine rgT 11 (some 114) ?_
       refine rgT 12 (some 115) ?_
       refine rgT 13 (some 116) ?_
       refine rgT 14 (some 117) ?_
       refine rgT 15 (some 118) ?_
       refine rgT 16 (some 119) ?_
       refine rgT 17 (some 120) ?_
       refine rgT 18 (some 121) ?_
       refine rgT 19 (some 122) ?_
       refine rgT 20 (some 123) ?_
       refine rgC 10 (fun K hK => ?_)
       go_simp
       refine (minus8_s vox voy avx.length avy.length vcx vcy avx avy _ (HSx.out.below HBd.out.1) (HSy.out.below HBd.out.1) (by omega) (by omega)).mono ?_
       rintro e w7 ⟨u7, rfl, hu7, hb7⟩
       obtain ⟨uo, uc, rfl⟩ := row_slice hu7
       have HU7 := Lib.hid hu7
       have HBe := Lib.hid (HBd.out.1.trans (hb7.mono HBd.out.2))
       clear hu7
       go_wp2_with fail
       refine hK.out _ _ ?_ (fun hHeld => ?_)
       ·exact keep2b (by assumption) hb7
       clear hK K
       try simp only [Act.put, lsA, lsZ, lsS]
       refine rgC 21 (fun K hK => ?_)
       go_simp
       refine (minus8_s voy vox avy.length avx.length vcy vcx avy avx _ (HSy.out.below HBe.out) (HSx.out.below HBe.out) (by omega) (by omega)).mono ?_
       rintro e w8 ⟨u8, rfl, hu8, hb8⟩
       obtain ⟨do_, dc, rfl⟩ := row_slice hu8
       have HU8 := Lib.hid hu8
       clear hu8
       go_wp2_with fail
       refine hK.out _ _ ?_ (fun hHeld => ?_)
       ·exact keep2b (by assumption) hb8
       clear hK K
       try simp only [Act.put, lsA, lsZ, lsS]
       refine rgT 22 (some 10) ?_
       refine rgT 23 (some 11) ?_
       refine wpAnyH_done (by kernel_rfl) ?_ _
       have HBf := Lib.hid (HBe.out.trans (hb8.mono HBe.out.size))
       have HRv8 := Lib.hid (HRv.out.below HBf.out)
       have hZw : w.heap.size ≤ Z.heap.size := Nat.le_trans hsL HRv.out.low.size
       have HG := Lib.hid (And.intro (row_lower (own_below HU7.out hb8) (show w.heap.size ≤ Z.drew.heap.size from hZw)) (HRv.out.fresh HU7.out (Nat.le_refl _)))
       have HM := Lib.hid (And.intro (row_lower HU8.out (Nat.le_trans hZw HBe.out.size)) (HRv.out.fresh HU8.out HBe.out.size))
       have c0x := cell_later HBf.out c0x
       have c1x := cell_later HBf.out c1x
       have c0y := cell_later HBf.out c0y
       have c1y := cell_later HBf.out c1y
       have HRv := Lib.hid HRv8.out
       clear hS HBd HBe HBf HRv8 hb7 hb8 HU7 HU8 HSx HSy hZw
       try clear hHeld
       have hgl := minus_len avx avy
       have hml := minus_len avy avx
       have HDr := Lib.hid (fun h => dif1_repl (n := any) (a := avx) (b := avy) hfx hfull h)
       have HDd := Lib.hid (fun h => dif1_edit (n := any) (a := avx) (b := avy) hfull h)
       obtain ⟨ge, hge⟩ : ∃ x, minusL avx avy = x := ⟨_, rfl⟩
       obtain ⟨de, hde⟩ : ∃ x, minusL avy avx = x := ⟨_, rfl⟩
       rw [hge] at HG HDr HDd hgl ⊢
       rw [hde] at HM HDd hml ⊢
       clear hge hde
       have hsz8 := HRv.out.low.size
       by_cases hrep : ge.length = avx.length
       ·have d1 : ((ge.length : Int) == (avx.length : Int)) = true := by simp; omega
        have d2 : (ge.length : Int) = (avx.length : Int) := by omega
        have HSt := Lib.hid (HSt.out.trans (by rw [HDr.out hrep]))
        clear HDr HDd hrep
        have hlow := HRv.out.low.size
        go_wp2_with fail
        go_region_law (refine step_push_mod (World.drew _) (v := .slice lo T.length lc) (n := T.length) (xs := mcells T) (show World.ownsRow _ _ _ _ _ _ _ from HRv.out.row) _ _ 3 any (.slice voy avy.length vcy) rfl rfl rfl (by simp [Act.eval, Act.put]) (by simp [Act.eval, Act.put]) (by omega) (by simp; exact hlow) ?_; intro v3 w3 g1 g2 g3; obtain ⟨vo3, vc3, rfl⟩ := row_slice g1; have HP3 := Lib.hid ((HRv.out.below (Below.refl _ _).drew).push (vs := avy) (own_drew (own_below HRwy.out HRv.out.low)) HApy.out _ g1 g2 g3); clear g1 g2 g3)
        all_goals
         go_wp2_with fail
         go_roundw
         case rel => exact ⟨i + 1, k + 1, by omega, by omega, by go_num, by go_num, Lib.hid ⟨_, HP3.out, by rw [mmds_snoc, List.append_assoc]; rw [HSt.out] at HMg; exact HMg.out, by have := hTl; simp; omega⟩⟩
         case measure => simp [intOf]; omega
       ·have d1 : ((ge.length : Int) == (avx.length : Int)) = false := by simp; omega
        have d2 : ¬ (ge.length : Int) = (avx.length : Int) := by omega
        have HSt := Lib.hid (HSt.out.trans (by rw [HDd.out hrep]))
        clear HDr HDd hrep
        by_cases hg0 : 0 < ge.length
        ·have e3 : decide ((0 : Int) < (ge.length : Int)) = true := decide_eq_true (by omega)
         have e3b : (ge.length : Int) > 0 := by omega
         by_cases hm0 : 0 < de.length
         ·have e4 : decide ((0 : Int) < (de.length : Int)) = true := decide_eq_true (by omega)
          have e4b : (de.length : Int) > 0 := by omega
          rw [if_pos hg0, if_pos hm0] at HSt
          clear hg0 hm0
          go_wp2_with (first | (at_builtin; go_loud (refine push_mod _ hw3 (.tmp 164) (.tmp 172) 1 any (.slice do_ de.length dc) rfl ?_ ?_ ?_ ?_ ?_ ?_ ?_; exact rfl; exact rfl; exact rfl; exact rfl; omega; exact HP2.out.low.size; intro v4 w4 g1 g2 g3; obtain ⟨vo4, vc4, rfl⟩ := row_slice g1; have HP3 := Lib.hid (HP2.out.push (vs := de) HM3.out.1 HM3.out.2 _ (by rw [hl3]; exact g1) g2 g3); clear g1 g2 g3)) | (at_builtin; go_loud (refine push_mod _ HRv.out.row (.tmp 151) (.tmp 159) 2 any (.slice uo ge.length uc) rfl ?_ ?_ ?_ ?_ ?_ ?_ ?_; exact rfl; exact rfl; exact rfl; exact rfl; omega; exact HRv.out.low.size; intro v3 w3 g1 g2 g3; obtain ⟨vo3, vc3, rfl⟩ := row_slice g1; have HP2 := Lib.hid (HRv.out.push (vs := ge) HG.out.1 HG.out.2 _ g1 g2 g3); have HM3 := Lib.hid (row_push HM.out.1 HM.out.2 _ g2 g3); have c0y3 := cell_later HP2.out.low C0y.out; have hl3 : (T ++ [(⟨⟨2, any, ge⟩, .slice uo ge.length uc⟩ : Mv)]).length = T.length + 1 := (by simp); have hw3 := HP2.out.row; rw [hl3] at hw3; clear g1 g2 g3)))
          go_wp2_with fail
          go_roundw
          case rel => exact ⟨i + 1, k + 1, by omega, by omega, by go_num, by go_num, Lib.hid ⟨_, HP3.out, by rw [mmds_snoc, mmds_snoc, List.append_assoc, List.append_assoc]; rw [HSt.out, List.append_assoc] at HMg; exact HMg.out, by have := hTl; simp; omega⟩⟩
          case measure => simp [intOf]; omega
         ·have e4 : decide ((0 : Int) < (de.length : Int)) = false := decide_eq_false (by omega)
          have e4b : ¬ (de.length : Int) > 0 := by omega
          rw [if_pos hg0, if_neg hm0, List.append_nil] at HSt
          clear hg0 hm0
          go_wp2_with (at_builtin; go_must (refine push_mod _ HRv.out.row (.tmp 151) (.tmp 159) 2 any (.slice uo ge.length uc) rfl ?_ ?_ ?_ ?_ ?_ ?_ ?_; exact rfl; exact rfl; exact rfl; exact rfl; omega; exact HRv.out.low.size; intro v3 w3 g1 g2 g3; obtain ⟨vo3, vc3, rfl⟩ := row_slice g1; have HP3 := Lib.hid (HRv.out.push (vs := ge) HG.out.1 HG.out.2 _ g1 g2 g3); clear g1 g2 g3))
          go_wp2_with fail
          go_roundw
          case rel => exact ⟨i + 1, k + 1, by omega, by omega, by go_num, by go_num, Lib.hid ⟨_, HP3.out, by rw [mmds_snoc, List.append_assoc]; rw [HSt.out] at HMg; exact HMg.out, by have := hTl; simp; omega⟩⟩
          case measure => simp [intOf]; omega
        ·have e3 : decide ((0 : Int) < (ge.length : Int)) = false := decide_eq_false (by omega)
         have e3b : ¬ (ge.length : Int) > 0 := by omega
         by_cases hm0 : 0 < de.length
         ·have e4 : decide ((0 : Int) < (de.length : Int)) = true := decide_eq_true (by omega)
          have e4b : (de.length : Int) > 0 := by omega
          rw [if_neg hg0, if_pos hm0, List.nil_append] at HSt
          clear hg0 hm0
          go_wp2_with (at_builtin; go_must (refine push_mod _ HRv.out.row (.tmp 164) (.tmp 172) 1 any (.slice do_ de.length dc) rfl ?_ ?_ ?_ ?_ ?_ ?_ ?_; exact rfl; exact rfl; exact rfl; exact rfl; omega; exact HRv.out.low.size; intro v3 w3 g1 g2 g3; obtain ⟨vo3, vc3, rfl⟩ := row_slice g1; have HP3 := Lib.hid (HRv.out.push (vs := de) HM.out.1 HM.out.2 _ g1 g2 g3); clear g1 g2 g3))
          go_wp2_with fail
          go_roundw
          case rel => exact ⟨i + 1, k + 1, by omega, by omega, by go_num, by go_num, Lib.hid ⟨_, HP3.out, by rw [mmds_snoc, List.append_assoc]; rw [HSt.out] at HMg; exact HMg.out, by have := hTl; simp; omega⟩⟩
          case measure => simp [intOf]; omega
         ·have e4 : decide ((0 : Int) < (de.length : Int)) = false := decide_eq_false (by omega)
          have e4b : ¬ (de.length : Int) > 0 := by omega
          rw [if_neg hg0, if_neg hm0, List.nil_append, List.nil_append] at HSt
          clear hg0 hm0
          go_wp2_with fail
          go_roundw
          case rel => exact ⟨i + 1, k + 1, by omega, by omega, by go_num, by go_num, Lib.hid ⟨T, HRv.out, by rw [HSt.out] at HMg; exact HMg.out, by omega⟩⟩
          case measure => simp [intOf]; omega
      ·have q1 : Op.bytesLess anx.toList any.toList = false := by rw [str_less]; exact decide_eq_false (cs_asymm gt)
       have q2 : Op.bytesLess any.toList anx.toList = true := by rw [str_less]; exact decide_eq_true gt
       have HSt := Lib.hid (HGt.out gt)
       clear gt HLt HGt HEq
       go_wp2_with fail
       refine wp_region_held_drew (S := fun W => W.cell? ⟨gx, i * 2, none⟩ = some (.string anx) ∧ W.cell? ⟨gy, k * 2, none⟩ = some (.string any) ∧ True) (by kernel_rfl) (⟨c0x, c0y, trivial⟩) (fun hS => ?_)
       refine rgT 0 (some 36) ?_
       refine rgT 1 (some 37) ?_
       refine rgT 2 (some 38) ?_
       refine rgT 3 (some 39) ?_
       refine rgT 4 (some 40) ?_
       refine rgT 5 (some 41) ?_
       refine rgT 6 (some 42) ?_
       refine rgT 7 (some 43) ?_
       refine rgT 8 (some 44) ?_
       refine rgT 9 (some 45) ?_
       refine rgT 10 (some 46) ?_
       refine rgT 11 (some 47) ?_
       refine rgT 12 (some 48) ?_
       refine rgT 13 (some 49) ?_
       refine rgT 14 (some 50) ?_
       refine rgT 15 (some 51) ?_
       refine rgT 16 (some 52) ?_
       refine rgT 17 (some 53) ?_
       refine rgT 18 (some 54) ?_
       refine rgT 19 (some 55) ?_
       refine rgT 20 (some 56) ?_
       refine rgT 21 (some 57) ?_
       refine rgT 22 (some 58) ?_
       refine wpAnyH_done (by kernel_rfl) ?_ _
       have HRv := Lib.hid (HRv.out.below (Below.refl _ _).drew)
       have c0x := cell_later (Below.refl _ _).drew c0x
       have c1x := cell_later (Below.refl _ _).drew c1x
       have c0y := cell_later (Below.refl _ _).drew c0y
       have c1y := cell_later (Below.refl _ _).drew c1y
       obtain ⟨Z, hZ⟩ : ∃ z, wr.drew = z := ⟨_, rfl⟩
       rw [hZ] at HRv c0x c1x c0y c1y ⊢
       clear hZ hS
       go_wp2_with fail
       refine wp_region_held_drew (S := fun W => W.cell? ⟨gx, i * 2, none⟩ = some (.string anx) ∧ W.cell? ⟨gy, k * 2, none⟩ = some (.string any) ∧ True) (by kernel_rfl) (⟨c0x, c0y, trivial⟩) (fun hS => ?_)
       refine rgT 0 (some 70) ?_
       refine rgT 1 (some 71) ?_
       refine rgT 2 (some 72) ?_
       refine rgT 3 (some 73) ?_
       refine rgT 4 (some 74) ?_
       refine rgT 5 (some 75) ?_
       refine rgT 6 (some 76) ?_
       refine rgT 7 (some 77) ?_
       refine rgT 8 (some 78) ?_
       refine rgT 9 (some 79) ?_
       refine rgT 10 (some 80) ?_
       refine rgT 11 (some 81) ?_
       refine rgT 12 (some 82) ?_
       refine rgT 13 (some 83) ?_
       refine rgT 14 (some 84) ?_
       refine rgT 15 (some 85) ?_
       refine rgT 16 (some 86) ?_
       refine wpAnyH_done (by kernel_rfl) ?_ _
       have HRv := Lib.hid (HRv.out.below (Below.refl _ _).drew)
       have c0x := cell_later (Below.refl _ _).drew c0x
       have c1x := cell_later (Below.refl _ _).drew c1x
       have c0y := cell_later (Below.refl _ _).drew c0y
       have c1y := cell_later (Below.refl _ _).drew c1y
       obtain ⟨Z, hZ⟩ : ∃ z, Z.drew = z := ⟨_, rfl⟩
       rw [hZ] at HRv c0x c1x c0y c1y ⊢
       clear hZ hS
       have hlow := HRv.out.low.size
       go_wp2_with fail
       go_region_law (refine step_push_mod (World.drew _) (v := .slice lo T.length lc) (n := T.length) (xs := mcells T) (show World.ownsRow _ _ _ _ _ _ _ from HRv.out.row) _ _ 1 any (.slice voy avy.length vcy) rfl rfl rfl (by simp [Act.eval, Act.put]) (by simp [Act.eval, Act.put]) (by omega) (by simp; exact hlow) ?_; intro v3 w3 g1 g2 g3; obtain ⟨vo3, vc3, rfl⟩ := row_slice g1; have HP3 := Lib.hid ((HRv.out.below (Below.refl _ _).drew).push (vs := avy) (own_drew (own_below HRwy.out HRv.out.low)) HApy.out _ g1 g2 g3); clear g1 g2 g3)
       all_goals
        go_wp2_with fail
        go_roundw
        case rel => exact ⟨i, k + 1, by omega, by omega, by go_num, by go_num, Lib.hid ⟨_, HP3.out, by rw [mmds_snoc, List.append_assoc]; rw [HSt.out] at HMg; exact HMg.out, by have := hTl; simp; omega⟩⟩
        case measure => simp [intOf]; omega
     ·obtain rfl : k = q := by omega
      have dy1 : decide ((k : Int) ≤ (k : Int)) = true := decide_eq_true (by omega)
      have ey1 : (k : Int) ≤ (k : Int) := by omega
      have HSt := Lib.hid (mrg_lt (i := i) (k := k) HXa.out HYa.out (by rw [HXl.out]; exact hltx) (fun h => absurd h (by rw [HYl.out]; exact hlty)))
      obtain ⟨Ax, hAx⟩ : ∃ z, atD X i = z := ⟨_, rfl⟩
      have HAx := Lib.hid hAx
      rw [hAx] at c0x c1x C0x C1x HStx HRwx HApx HAtx HSt
      clear hAx
      obtain ⟨anx, avx⟩ := Ax
      simp only at c0x c1x C0x C1x HStx HRwx HApx HAtx HSt
      go_wp2_with fail
      refine wp_region_held_drew (S := fun W => W.cell? ⟨gx, i * 2, none⟩ = some (.string anx) ∧ True) (by kernel_rfl) (⟨c0x, trivial⟩) (fun hS => ?_)
      refine rgT 0 (some 36) ?_
      refine rgT 1 (some 37) ?_
      refine rgT 2 (some 38) ?_
      refine rgT 3 (some 39) ?_
      refine rgT 4 (some 40) ?_
      refine rgS 5 (some 41) ?_
      refine rgS 6 (some 42) ?_
      refine rgS 7 (some 43) ?_
      refine rgS 8 (some 44) ?_
      refine rgS 9 (some 45) ?_
      refine rgS 10 (some 46) ?_
      refine rgS 11 (some 47) ?_
      refine rgS 12 (some 48) ?_
      refine rgS 13 (some 49) ?_
      refine rgS 14 (some 50) ?_
      refine rgS 15 (some 51) ?_
      refine rgS 16 (some 52) ?_
      refine rgS 17 (some 53) ?_
      refine rgS 18 (some 54) ?_
      refine rgS 19 (some 55) ?_
      refine rgS 20 (some 56) ?_
      refine rgS 21 (some 57) ?_
      refine rgT 22 (some 58) ?_
      refine wpAnyH_done (by kernel_rfl) ?_ _
      have HRv := Lib.hid (HRv.out.below (Below.refl _ _).drew)
      have c0x := cell_later (Below.refl _ _).drew c0x
      have c1x := cell_later (Below.refl _ _).drew c1x
      obtain ⟨Z, hZ⟩ : ∃ z, wr.drew = z := ⟨_, rfl⟩
      rw [hZ] at HRv c0x c1x ⊢
      clear hZ hS
      go_wp2_with (at_builtin; go_must (refine push_mod _ HRv.out.row (.tmp 59) (.tmp 66) 2 anx (.slice none 0 0) rfl ?_ ?_ ?_ ?_ ?_ ?_ ?_; exact rfl; exact rfl; exact rfl; exact rfl; omega; exact HRv.out.low.size; intro v3 w3 g1 g2 g3; obtain ⟨vo3, vc3, rfl⟩ := row_slice g1; have HP3 := Lib.hid (HRv.out.push (vs := []) (World.ownsRow_nil _ _ _ _) (.inl rfl) _ g1 g2 g3); clear g1 g2 g3))
      go_wp2_with fail
      go_roundw
      case rel => exact ⟨i + 1, k, by omega, by omega, by go_num, by go_num, Lib.hid ⟨_, HP3.out, by rw [mmds_snoc, List.append_assoc]; rw [HSt.out] at HMg; exact HMg.out, by have := hTl; simp; omega⟩⟩
      case measure => simp [intOf]; omega
    ·obtain rfl : i = p := by omega
     have dx : decide ((i : Int) < (i : Int)) = false := decide_eq_false (by omega)
     have dx1 : decide ((i : Int) ≤ (i : Int)) = true := decide_eq_true (by omega)
     have ex : ¬ (i : Int) < (i : Int) := by omega
     have ex1 : (i : Int) ≤ (i : Int) := by omega
     by_cases hlty : k < q
     ·have dy : decide ((k : Int) < (q : Int)) = true := decide_eq_true (by omega)
      have dy1 : decide ((q : Int) ≤ (k : Int)) = false := decide_eq_false (by omega)
      have ny1 : decide (q ≤ k) = false := decide_eq_false (by omega)
      have ey : (k : Int) < (q : Int) := by omega
      have ey1 : ¬ (q : Int) ≤ (k : Int) := by omega
      have zy : (0 : Int) ≤ (k : Int) := by omega
      obtain ⟨gy, voy, vcy, rfl, c0y, c1y, hsty, hrwy⟩ := HY.out.at HYl.out hlty
      have HApy := Lib.hid (HRv.out.apart hrwy)
      have HRwy := Lib.hid hrwy
      have HAty := Lib.hid (HNb.out.each (atD Y k) (at_mem Y k (by rw [HYl.out]; exact hlty)))
      have HSty := Lib.hid hsty
      have C0y := Lib.hid c0y
      have C1y := Lib.hid c1y
      have c0y := cell_later HRv.out.low c0y
      have c1y := cell_later HRv.out.low c1y
      clear hsty hrwy
      have HSt := Lib.hid (mrg_gt (i := i) (k := k) HXa.out HYa.out (by rw [HYl.out]; exact hlty) (HYf.out k (by rw [HYl.out]; exact hlty)) (fun h => absurd h (by rw [HXl.out]; exact Nat.lt_irrefl _)))
      obtain ⟨Ay, hAy⟩ : ∃ z, atD Y k = z := ⟨_, rfl⟩
      have HAy := Lib.hid hAy
      rw [hAy] at c0y c1y C0y C1y HSty HRwy HApy HAty HSt
      clear hAy
      obtain ⟨any, avy⟩ := Ay
      simp only at c0y c1y C0y C1y HSty HRwy HApy HAty HSt
      have hvy : avy.length ≤ 20 := HAty.out.len
      go_wp2_with fail
      refine wp_region_held_drew (S := fun W => W.cell? ⟨gy, k * 2, none⟩ = some (.string any) ∧ True) (by kernel_rfl) (⟨c0y, trivial⟩) (fun hS => ?_)
      refine rgT 0 (some 36) ?_
      refine rgT 1 (some 37) ?_
      refine rgT 2 (some 38) ?_
      refine rgT 3 (some 39) ?_
      refine rgT 4 (some 40) ?_
      refine rgT 5 (some 41) ?_
      refine rgT 6 (some 42) ?_
      refine rgT 7 (some 43) ?_
      refine rgT 8 (some 44) ?_
      refine rgT 9 (some 45) ?_
      refine rgS 10 (some 46) ?_
      refine rgS 11 (some 47) ?_
      refine rgS 12 (some 48) ?_
      refine rgS 13 (some 49) ?_
      refine rgS 14 (some 50) ?_
      refine rgS 15 (some 51) ?_
      refine rgS 16 (some 52) ?_
      refine rgS 17 (some 53) ?_
      refine rgS 18 (some 54) ?_
      refine rgS 19 (some 55) ?_
      refine rgS 20 (some 56) ?_
      refine rgT 21 (some 57) ?_
      refine rgT 22 (some 58) ?_
      refine wpAnyH_done (by kernel_rfl) ?_ _
      have HRv := Lib.hid (HRv.out.below (Below.refl _ _).drew)
      have c0y := cell_later (Below.refl _ _).drew c0y
      have c1y := cell_later (Below.refl _ _).drew c1y
      obtain ⟨Z, hZ⟩ : ∃ z, wr.drew = z := ⟨_, rfl⟩
      rw [hZ] at HRv c0y c1y ⊢
      clear hZ hS
      go_wp2_with fail
      refine wp_region_held_drew (S := fun W => W.cell? ⟨gy, k * 2, none⟩ = some (.string any) ∧ True) (by kernel_rfl) (⟨c0y, trivial⟩) (fun hS => ?_)
      refine rgT 0 (some 70) ?_
      refine rgT 1 (some 71) ?_
      refine rgT 2 (some 72) ?_
      refine rgT 3 (some 73) ?_
      refine rgT 4 (some 74) ?_
      refine rgS 5 (some 75) ?_
      refine rgS 6 (some 76) ?_
      refine rgS 7 (some 77) ?_
      refine rgS 8 (some 78) ?_
      refine rgS 9 (some 79) ?_
      refine rgS 10 (some 80) ?_
      refine rgS 11 (some 81) ?_
      refine rgS 12 (some 82) ?_
      refine rgS 13 (some 83) ?_
      refine rgS 14 (some 84) ?_
      refine rgS 15 (some 85) ?_
      refine rgT 16 (some 86) ?_
      refine wpAnyH_done (by kernel_rfl) ?_ _
      have HRv := Lib.hid (HRv.out.below (Below.refl _ _).drew)
      have c0y := cell_later (Below.refl _ _).drew c0y
      have c1y := cell_later (Below.refl _ _).drew c1y
      obtain ⟨Z, hZ⟩ : ∃ z, Z.drew = z := ⟨_, rfl⟩
      rw [hZ] at HRv c0y c1y ⊢
      clear hZ hS
      have hlow := HRv.out.low.size
      go_wp2_with fail
      go_region_law (refine step_push_mod (World.drew _) (v := .slice lo T.length lc) (n := T.length) (xs := mcells T) (show World.ownsRow _ _ _ _ _ _ _ from HRv.out.row) _ _ 1 any (.slice voy avy.length vcy) rfl rfl rfl (by simp [Act.eval, Act.put]) (by simp [Act.eval, Act.put]) (by omega) (by simp; exact hlow) ?_; intro v3 w3 g1 g2 g3; obtain ⟨vo3, vc3, rfl⟩ := row_slice g1; have HP3 := Lib.hid ((HRv.out.below (Below.refl _ _).drew).push (vs := avy) (own_drew (own_below HRwy.out HRv.out.low)) HApy.out _ g1 g2 g3); clear g1 g2 g3)
      all_goals
       go_wp2_with fail
       go_roundw
       case rel => exact ⟨i, k + 1, by omega, by omega, by go_num, by go_num, Lib.hid ⟨_, HP3.out, by rw [mmds_snoc, List.append_assoc]; rw [HSt.out] at HMg; exact HMg.out, by have := hTl; simp; omega⟩⟩
       case measure => simp [intOf]; omega
     ·obtain rfl : k = q := by omega
      have dy : decide ((k : Int) < (k : Int)) = false := decide_eq_false (by omega)
      have ey : ¬ (k : Int) < (k : Int) := by omega
      have HEnd := Lib.hid (show mmds T = D by
       have h := HMg.out
       rw [List.drop_eq_nil_of_le (by rw [HXl.out]; exact Nat.le_refl _), List.drop_eq_nil_of_le (by rw [HYl.out]; exact Nat.le_refl _), mrg_nil, List.append_nil] at h
       exact h)
      go_wp2_with fail
      go_ret
      exact ⟨_, T, rfl, by rw [HEnd.out, enD_yes HE.out.1 HE.out.2, HDe.out], HRv.out.dv HBL.out⟩
  ·have d1 : (c2 != 0) = true := by simpa using h2
   go_wp2_with fail
   go_ret
   exact ⟨_, [], rfl, by rw [enD_no (.inr (by rw [HE.out.2]; exact h2))]; rfl, DvI.nil HB2.out⟩
 ·have d1 : (c1 != 0) = true := by simpa using h1
  go_wp2_with fail
  go_ret
  exact ⟨_, [], rfl, by rw [enD_no (.inl (by rw [HE.out.1]; exact h1))]; rfl, DvI.nil HB1.out⟩
end Go.Proofs.YtmmdaegdkikkpaaGreatDoor
end
