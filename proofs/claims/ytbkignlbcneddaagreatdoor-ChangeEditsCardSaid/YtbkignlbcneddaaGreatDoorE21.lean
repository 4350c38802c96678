/-
  Texts of the schema layer and of those beneath it, joined: ChgMi, ChgEy, ChgCd, ChgR3, ChgRf, ChgAw0. Conditions stand at each contract.
-/
import Derived.Deep.RegionLaw
import Derived.Test.YtbkignlbcneddaaGreatDoorE05
import Derived.Test.YtbkignlbcneddaaGreatDoorE09
import Derived.Test.YtbkignlbcneddaaGreatDoorE11
import Derived.Test.YtbkignlbcneddaaGreatDoorE12
import Derived.Test.YtbkignlbcneddaaGreatDoorE15
import Derived.Test.YtbkignlbcneddaaGreatDoorE17
import Derived.Test.YtbkignlbcneddaaGreatDoorE19
import Derived.Test.YtbkignlbcneddaaGreatDoorE20
set_option linter.unusedVariables false
set_option linter.unusedSimpArgs false
set_option linter.unnecessarySimpa false

section
/-
  Contract of the specification's missing. Condition: few attributes.
-/
set_option maxRecDepth 100000
namespace Go.Proofs.YtbkignlbcneddaaGreatDoor
open Go.RowKit Go.PlainAid
open Csn (KbC kbc_new box_below info_cparts)
theorem wo_snoc (A o : List Prs) (p : Prs) : withoutL (A ++ [p]) o = withoutL A o ++ if memP o p = true then [] else [p] := by
  unfold withoutL
  rw [List.filter_append]
  cases e : memP o p <;> simp [e]
/-- what the loops keep -/
structure MiI (w1 : World) (out : List Chg) (v : Value) (W : World) : Prop where
  low : Below w1.heap.size w1 W
  own : W.ownsRow w1.heap.size 26 8 v out.length (chcells out)
theorem MiI.step {w1 W V : World} {out : List Chg} {v : Value} (h : MiI w1 out v W) (hb : Below W.heap.size W V) : MiI w1 out v V :=
  ⟨h.low.trans (hb.mono h.low.size), own_below h.own hb⟩
/-- 'l = append(l, g)' where l is the call's own, as one step of a region that draws its order -/
theorem step_push_ch {ops : Array Oper} {o : Oper} {a : Act} {K : Act → World → Prop} {Q : Exit → Act → World → Prop} {E : Prop} (wr : World) {base : Nat} {v : Value} {n : Nat} {xs : List Value} (hown : wr.ownsRow base 26 8 v n xs) (s x : Operand) (g : Chg)
    (hgd : o.guard = none)
    (ho : o.op = .call { callee := .builtin .append, args := #[s, x], argTypes := #[28, 28] })
    (hs : a.eval s = v) (hx : a.eval x = .slice (some ⟨wr.heap.size, 0, none⟩) 1 1) (hn : n + 1 ≤ 1000000000) (hbase : base ≤ wr.heap.size)
    (h : ∀ v' w', w'.ownsRow base 26 8 v' (n + 1) (xs ++ gcells g) → Hid (Below base wr w') → K (a.put o.dst v') w') :
    if Region.wanted o (yielded ops a.tmps) = true then Oper.wp Tryz.prog o a (wr.alloc (chB g)) K Q else E := by
  obtain ⟨i0, hi, hz0, hz1, hz2⟩ := info_cparts info_ch
  have hw : Region.wanted o (yielded ops a.tmps) = true := by simp [Region.wanted, hgd]
  rw [if_pos hw]
  have hone := ch_one wr g
  obtain ⟨_, _, _, hc, _⟩ := hone
  obtain ⟨b, off, e, hcs⟩ := hc (by decide)
  cases e
  have hnews : ∀ j u, (gcells g)[j]? = some u → (wr.alloc (chB g)).cell? ((⟨wr.heap.size, 0, none⟩ : Addr).add j) = some u := by
    have h2 := chs_cells hcs
    have e2 : chcells [g] = gcells g := by simp [chcells]
    rw [e2] at h2
    exact h2
  obtain ⟨v', w', hr, h2, h3, _⟩ := run_append_own (P := Tryz.prog) (wr.alloc (chB g)) base 28 o.type 26 i0 (.agg #[.int .i64 0, .int .i64 0, .int .i64 0, .int .i64 0, .string ⟨#[]⟩, .string ⟨#[]⟩, .string ⟨#[]⟩, .string ⟨#[]⟩]) 8 96 Tryz.underlying28 hi hz0 hz1 hz2 rfl (by decide) v n xs (hown.alloc _) ⟨wr.heap.size, 0, none⟩ 1 1 (gcells g) (by rw [gcells_len]) hnews
    (by intro u hu; exact chcells_one [g] u (by simpa [chcells] using hu)) (by unfold maxLen; omega) (by omega) (by simp; omega)
  unfold Oper.wp execOp
  simp only [ho, resolve, invoke, builtin, Sem.run_bind, Sem.run_pure, Result.andThen_ok, List.map_toArray, List.map_cons, List.map_nil, hs, hx, hr]
  exact h v' w' h2 (Lib.hid (((Below.refl base wr).alloc hbase _).grown h3 (by simp; omega) (fun k hk => (hown.lt k hk).1)))
theorem wo_le (a b : List Prs) : (withoutL a b).length ≤ a.length := List.length_filter_le _ _
theorem rhas_k (bo : Option Addr) (m dap : Nat) (k : List At) (nm x : ByteArray) (y : Bool) (V : World) (h : AttrsAt V bo m dap k) (hF : Few k) (hs : nm.size ≤ 1100000) (hy : memB (vals k (lowS nm)) x = y) :
    Calls Tryz.prog 120 #[.slice bo m dap, .string nm, .string x] V fun e w' => e = .returned (.bool y) ∧ Below V.heap.size V w' := by
  rw [← hy]; exact rhas_s bo m dap k nm x V h hF hs
set_option maxHeartbeats 8000000 in
theorem missing_s (id : ByteArray) (op : Int) (ao bo : Option Addr) (n m cap dap : Nat) (l k : List At) (w : World) (h : AttrsAt w ao n cap l) (hk : AttrsAt w bo m dap k) (hF : Few l) (hG : Few k) :
    Calls Tryz.prog 77 #[.string id, .int .i64 op, .slice ao n cap, .slice bo m dap] w fun e w' => ∃ v, e = .returned v ∧ w'.ownsRow w.heap.size 26 8 v (missG id op l k).length (chcells (missG id op l k)) ∧ Below w.heap.size w w' := by
  have HC := Lib.hid (rsorted_s ao n cap l w h hF.small hF.vals (by rw [← h.1]; exact hF.len))
  have HF := Lib.hid (few_nf hF)
  have HK := Lib.hid hk
  have HG := Lib.hid hG
  have HLw := Lib.hid (nf_low l)
  have HMs := Lib.hid (show missG id op l k = (withoutL (prO (nf l)) (prsL k)).map (editG op id) from rfl)
  clear h hF hk hG
  go_enter Tryz.func77, Tryz.ntmps77
  go_wp2_with fail
  refine HC.out.mono ?_
  rintro e w1 ⟨v, T, rfl, hT, hTO, hown, hb⟩
  have HA := atts_own hown hTO.ok
  rw [hT] at HA
  obtain ⟨xo, xn, xc, hv, hat⟩ := HA
  subst hv
  have HA := Lib.hid hat
  have HN := Lib.hid hat.1
  have HW := Lib.hid hb
  obtain ⟨L, hL⟩ : ∃ L, nf l = L := ⟨_, rfl⟩
  rw [hL] at HF HA HN HLw HMs
  have hn3 : xn ≤ 3000 := by rw [← HN.out]; exact HF.out.len
  obtain ⟨R, hR⟩ : ∃ R, prsL k = R := ⟨_, rfl⟩
  have HR := Lib.hid hR
  rw [hR] at HMs
  have HKk := Lib.hid (fun V (hV : Below w1.heap.size w1 V) => HK.out.below (HW.out.trans (hV.mono HW.out.size)))
  have HI := Lib.hid (show MiI w1 ((withoutL (prO (L.take 0)) R).map (editG op id)) (.slice none 0 0) w1 from ⟨Below.refl _ _, World.ownsRow_nil _ _ _ _⟩)
  clear hT hTO hown hb hat hL hR HC
  go_wp2_with fail
  go_loopw [9, 11, 12] (fun lv iv _ wr => ∃ i : Nat, i ≤ xn ∧ iv = .int .i64 i ∧ Hid (MiI w1 ((withoutL (prO (L.take i)) R).map (editG op id)) lv wr)) (fun _ iv _ _ => xn - (intOf iv).toNat)
  case atStart => exact ⟨0, Nat.zero_le _, rfl, HI⟩
  case round =>
    clear HI
    obtain ⟨i, hi, rfl, HI⟩ := hrel
    by_cases hlt : i < xn
    · have e1 : (i : Int) < (xn : Int) := by omega
      obtain ⟨b, off, hao, hb0, hats⟩ := HA.out.2.2.2 (by omega)
      subst hao
      have HAt := Lib.hid (hats i hlt)
      have HM := Lib.hid (prO_more (L := L) (i := i) (by rw [HN.out]; exact hlt))
      have HVl := Lib.hid (show (atD L i).2.length ≤ 1100000 from by
        have h1 := prO_take L (i + 1)
        rw [HM.out, List.length_append, List.length_map] at h1
        have := HF.out.vals
        omega)
      have HLo := Lib.hid (HLw.out _ (at_mem L i (by rw [HN.out]; exact hlt)))
      have HSz := Lib.hid (show (atD L i).1.size ≤ 1100000 from by have h1 := (HF.out.small _ (at_mem L i (by rw [HN.out]; exact hlt))).1; omega)
      obtain ⟨⟨nm, vs⟩, ha⟩ : ∃ a, atD L i = a := ⟨_, rfl⟩
      rw [ha] at HAt HM HVl HLo HSz
      clear ha hats hb0
      obtain ⟨a0, vo, vn, vc, a1, hst⟩ := HAt.out
      have HS := Lib.hid hst
      obtain rfl : vs.length = vn := hst.1
      have HO := Lib.hid (show (prO (L.take i)).length ≤ 1100000 from Nat.le_trans (prO_take L i) HF.out.vals)
      have hvl : vs.length ≤ 1100000 := HVl.out
      have HC0 := Lib.hid a0
      have HC1 := Lib.hid a1
      have HQ := Lib.hid (show MiI w1 ((withoutL (prO (L.take i) ++ (vs.take 0).map fun v => (nm, v)) R).map (editG op id)) u9 wr from by
        rw [List.take_zero, List.map_nil, List.append_nil]; exact HI.out)
      clear hst a0 a1 HI
      go_wp2_with fail
      go_loopw [9, 12] (fun lv jv wr => ∃ j : Nat, j ≤ vs.length ∧ jv = .int .i64 j ∧ Hid (MiI w1 ((withoutL (prO (L.take i) ++ (vs.take j).map fun v => (nm, v)) R).map (editG op id)) lv wr)) (fun _ jv _ => vs.length - (intOf jv).toNat)
      case atStart => exact ⟨0, Nat.zero_le _, rfl, HQ⟩
      case round =>
        clear HQ
        obtain ⟨j, hj, rfl, HQ⟩ := hrel
        have c1 := cell_later HQ.out.low HC1.out
        by_cases hlj : j < vs.length
        · have e2 : (j : Int) < (vs.length : Int) := by omega
          have k1 : (0 : Int) ≤ (j : Int) := by omega
          have k2 : (0 : Int) ≤ (i : Int) := by omega
          obtain ⟨vb, voff, hvo, hvb, hcs⟩ := HS.out.at (by omega)
          subst hvo
          have HCx := Lib.hid (fun V (hV : Below w1.heap.size w1 V) => hcs V hV j hlj)
          have HV := Lib.hid (val_more (n := nm) hlj)
          have HQl := Lib.hid (show ((withoutL (prO (L.take i) ++ (vs.take j).map fun v => (nm, v)) R).map (editG op id)).length + 1 ≤ 1000000000 from by
            rw [List.length_map]
            have h0 := wo_le (prO (L.take i) ++ (vs.take j).map fun v => (nm, v)) R
            rw [List.length_append, List.length_map] at h0
            have h1 := HO.out; have h2 : (vs.take j).length ≤ j := List.length_take_le _ _; omega)
          obtain ⟨x, hx⟩ : ∃ x, partAt vs j = x := ⟨_, rfl⟩
          rw [hx] at HCx HV
          have HWs := Lib.hid (wo_snoc (prO (L.take i) ++ (vs.take j).map fun v => (nm, v)) R (nm, x))
          rw [List.append_assoc, ← HV.out] at HWs
          obtain ⟨y, hy⟩ : ∃ y, memB (vals k (lowS nm)) x = y := ⟨_, rfl⟩
          have HHs := Lib.hid (fun V (hV : Below w1.heap.size w1 V) => rhas_k bo m dap k nm x y V (HKk.out V hV) HG.out HSz.out hy)
          have HY := Lib.hid (show memP R (nm, x) = y from by rw [← HR.out, ← has_prs (p := (nm, x)) HLo.out]; exact hy)
          rw [HY.out] at HWs
          obtain ⟨A, hA⟩ : ∃ A, (withoutL (prO (L.take i) ++ (vs.take j).map fun v => (nm, v)) R).map (editG op id) = A := ⟨_, rfl⟩
          have HAe := Lib.hid hA
          rw [hA] at HQ HQl
          have HNx := Lib.hid (show (withoutL (prO (L.take i) ++ (vs.take (j + 1)).map fun v => (nm, v)) R).map (editG op id) = A ++ (if y = true then [] else [editG op id (nm, x)]) from by
            rw [HWs.out, List.map_append, hA]; cases y <;> rfl)
          clear hx hcs hvb hA hy
          have HSt := Lib.hid (show ∀ V : World, MiI w1 A u9 V → (fun V : World => V.cell? ⟨b, off + i * 2, none⟩ = some (.string nm) ∧ V.cell? ⟨b, off + i * 2 + 1, none⟩ = some (.slice (some ⟨vb, voff, none⟩) vs.length vc) ∧ V.cell? ⟨vb, voff + j, none⟩ = some (.string x) ∧ Hid (MiI w1 A u9 V)) V from fun V h => ⟨cell_later h.low HC0.out, cell_later h.low HC1.out, HCx.out V h.low, Lib.hid h⟩)
          have HSu := Lib.hid (show ∀ V : World, Below w1.heap.size w1 V → (fun V : World => V.cell? ⟨b, off + i * 2, none⟩ = some (.string nm) ∧ V.cell? ⟨b, off + i * 2 + 1, none⟩ = some (.slice (some ⟨vb, voff, none⟩) vs.length vc) ∧ V.cell? ⟨vb, voff + j, none⟩ = some (.string x) ∧ Hid (Below w1.heap.size w1 V)) V from fun V h => ⟨cell_later h HC0.out, cell_later h HC1.out, HCx.out V h, Lib.hid h⟩)
          go_wp2_with fail
          have S0 := HSt.out _ (HQ.out.step (Below.refl _ _).drew)
          refine wp_region_held_drew (S := fun V => V.cell? ⟨b, off + i * 2, none⟩ = some (.string nm) ∧ V.cell? ⟨b, off + i * 2 + 1, none⟩ = some (.slice (some ⟨vb, voff, none⟩) vs.length vc) ∧ V.cell? ⟨vb, voff + j, none⟩ = some (.string x) ∧ Hid (MiI w1 A u9 V)) (by kernel_rfl) (S0) (fun hS => ?_)
          refine wpAnyH_take (i := 0) (oi := { dst := some 31, op := _, type := _, pos := _, after := _, guard := _ }) (v := ?_) rfl (by kernel_rfl) (by kernel_rfl) (by kernel_rfl) (fun _ _ _ h => h) (Or.inl ⟨by rfl, ?_⟩) (by assumption) ?_
          rotate_left
          · intro w hSw
            try dsimp only at hSw
            go_simp
            try with_reducible rfl
          try simp only [Act.put, List.setIfInBounds_toArray, List.set_cons_zero, List.set_cons_succ]
          refine wpAnyH_take (i := 1) (oi := { dst := some 32, op := _, type := _, pos := _, after := _, guard := _ }) (v := ?_) rfl (by kernel_rfl) (by kernel_rfl) (by kernel_rfl) (fun _ _ _ h => h) (Or.inl ⟨by rfl, ?_⟩) (by assumption) ?_
          rotate_left
          · intro w hSw
            try dsimp only at hSw
            go_simp
            try with_reducible rfl
          try simp only [Act.put, List.setIfInBounds_toArray, List.set_cons_zero, List.set_cons_succ]
          refine wpAnyH_take (i := 2) (oi := { dst := some 33, op := _, type := _, pos := _, after := _, guard := _ }) (v := ?_) rfl (by kernel_rfl) (by kernel_rfl) (by kernel_rfl) (fun _ _ _ h => h) (Or.inl ⟨by rfl, ?_⟩) (by assumption) ?_
          rotate_left
          · intro w hSw
            try dsimp only at hSw
            go_simp
            try with_reducible rfl
          try simp only [Act.put, List.setIfInBounds_toArray, List.set_cons_zero, List.set_cons_succ]
          refine wpAnyH_take (i := 3) (oi := { dst := some 34, op := _, type := _, pos := _, after := _, guard := _ }) (v := ?_) rfl (by kernel_rfl) (by kernel_rfl) (by kernel_rfl) (fun _ _ _ h => h) (Or.inl ⟨by rfl, ?_⟩) (by assumption) ?_
          rotate_left
          · intro w hSw
            try dsimp only at hSw
            go_simp
            try with_reducible rfl
          try simp only [Act.put, List.setIfInBounds_toArray, List.set_cons_zero, List.set_cons_succ]
          refine wpAnyH_take (i := 4) (oi := { dst := some 35, op := _, type := _, pos := _, after := _, guard := _ }) (v := ?_) rfl (by kernel_rfl) (by kernel_rfl) (by kernel_rfl) (fun _ _ _ h => h) (Or.inl ⟨by rfl, ?_⟩) (by assumption) ?_
          rotate_left
          · intro w hSw
            try dsimp only at hSw
            go_simp
            try with_reducible rfl
          try simp only [Act.put, List.setIfInBounds_toArray, List.set_cons_zero, List.set_cons_succ]
          refine wpAnyH_take (i := 5) (oi := { dst := some 36, op := _, type := _, pos := _, after := _, guard := _ }) (v := ?_) rfl (by kernel_rfl) (by kernel_rfl) (by kernel_rfl) (fun _ _ _ h => h) (Or.inl ⟨by rfl, ?_⟩) (by assumption) ?_
          rotate_left
          · intro w hSw
            try dsimp only at hSw
            go_simp
            try with_reducible rfl
          try simp only [Act.put, List.setIfInBounds_toArray, List.set_cons_zero, List.set_cons_succ]
          refine wpAnyH_take (i := 6) (oi := { dst := some 37, op := _, type := _, pos := _, after := _, guard := _ }) (v := ?_) rfl (by kernel_rfl) (by kernel_rfl) (by kernel_rfl) (fun _ _ _ h => h) (Or.inl ⟨by rfl, ?_⟩) (by assumption) ?_
          rotate_left
          · intro w hSw
            try dsimp only at hSw
            go_simp
            try with_reducible rfl
          try simp only [Act.put, List.setIfInBounds_toArray, List.set_cons_zero, List.set_cons_succ]
          refine wpAnyH_take (i := 7) (oi := { dst := some 38, op := _, type := _, pos := _, after := _, guard := _ }) (v := ?_) rfl (by kernel_rfl) (by kernel_rfl) (by kernel_rfl) (fun _ _ _ h => h) (Or.inl ⟨by rfl, ?_⟩) (by assumption) ?_
          rotate_left
          · intro w hSw
            try dsimp only at hSw
            go_simp
            try with_reducible rfl
          try simp only [Act.put, List.setIfInBounds_toArray, List.set_cons_zero, List.set_cons_succ]
          refine wpAnyH_take (i := 8) (oi := { dst := some 39, op := _, type := _, pos := _, after := _, guard := _ }) (v := ?_) rfl (by kernel_rfl) (by kernel_rfl) (by kernel_rfl) (fun _ _ _ h => h) (Or.inl ⟨by rfl, ?_⟩) (by assumption) ?_
          rotate_left
          · intro w hSw
            try dsimp only at hSw
            go_simp
            try with_reducible rfl
          try simp only [Act.put, List.setIfInBounds_toArray, List.set_cons_zero, List.set_cons_succ]
          refine wpAnyH_take (i := 9) (oi := { dst := some 40, op := _, type := _, pos := _, after := _, guard := _ }) (v := ?_) rfl (by kernel_rfl) (by kernel_rfl) (by kernel_rfl) (fun _ _ _ h => h) (Or.inl ⟨by rfl, ?_⟩) (by assumption) ?_
          rotate_left
          · intro w hSw
            try dsimp only at hSw
            go_simp
            try with_reducible rfl
          try simp only [Act.put, List.setIfInBounds_toArray, List.set_cons_zero, List.set_cons_succ]
          refine wpAnyH_take (i := 10) (oi := { dst := some 41, op := _, type := _, pos := _, after := _, guard := _ }) (v := ?_) rfl (by kernel_rfl) (by kernel_rfl) (by kernel_rfl) (fun _ _ _ h => h) (Or.inl ⟨by rfl, ?_⟩) (by assumption) ?_
          rotate_left
          · intro w hSw
            try dsimp only at hSw
            go_simp
            try with_reducible rfl
          try simp only [Act.put, List.setIfInBounds_toArray, List.set_cons_zero, List.set_cons_succ]
          refine wpAnyH_take (i := 11) (oi := { dst := some 42, op := _, type := _, pos := _, after := _, guard := _ }) (v := ?_) rfl (by kernel_rfl) (by kernel_rfl) (by kernel_rfl) (fun _ _ _ h => h) (Or.inl ⟨by rfl, ?_⟩) (by assumption) ?_
          rotate_left
          · intro w hSw
            try dsimp only at hSw
            go_simp
            try with_reducible rfl
          try simp only [Act.put, List.setIfInBounds_toArray, List.set_cons_zero, List.set_cons_succ]
          refine wpAnyH_take (i := 12) (oi := { dst := some 43, op := _, type := _, pos := _, after := _, guard := _ }) (v := ?_) rfl (by kernel_rfl) (by kernel_rfl) (by kernel_rfl) (fun _ _ _ h => h) (Or.inl ⟨by rfl, ?_⟩) (by assumption) ?_
          rotate_left
          · intro w hSw
            try dsimp only at hSw
            go_simp
            try with_reducible rfl
          try simp only [Act.put, List.setIfInBounds_toArray, List.set_cons_zero, List.set_cons_succ]
          refine wpAnyH_take (i := 13) (oi := { dst := some 44, op := _, type := _, pos := _, after := _, guard := _ }) (v := ?_) rfl (by kernel_rfl) (by kernel_rfl) (by kernel_rfl) (fun _ _ _ h => h) (Or.inl ⟨by rfl, ?_⟩) (by assumption) ?_
          rotate_left
          · intro w hSw
            try dsimp only at hSw
            go_simp
            try with_reducible rfl
          try simp only [Act.put, List.setIfInBounds_toArray, List.set_cons_zero, List.set_cons_succ]
          refine wpAnyH_ready (rs := [14]) (by kernel_rfl) (by simp) ?_
          refine AllReadyH.cons rfl (fun K hK => ?_) AllReadyH.nil
          go_simp
          refine (HHs.out _ hS.2.2.2.out.low).mono ?_
          rintro _ v2 ⟨rfl, hb⟩
          have HK2 := Lib.hid (hS.2.2.2.out.step hb)
          clear hb
          go_wp2_with fail
          refine hK.out _ _ ?_ (fun hHeld => ?_)
          · exact HSt.out _ HK2.out
          clear hK K
          try simp only [Act.put, List.setIfInBounds_toArray, List.set_cons_zero, List.set_cons_succ]
          refine wpAnyH_take (i := 15) (oi := { dst := some 46, op := _, type := _, pos := _, after := _, guard := _ }) (v := ?_) rfl (by kernel_rfl) (by kernel_rfl) (by kernel_rfl) (fun _ _ _ h => h) (Or.inl ⟨by rfl, ?_⟩) (by assumption) ?_
          rotate_left
          · intro w hSw
            try dsimp only at hSw
            go_simp
            try with_reducible rfl
          try simp only [Act.put, List.setIfInBounds_toArray, List.set_cons_zero, List.set_cons_succ]
          refine wpAnyH_done (by kernel_rfl) ?_ _
          have HQ := Lib.hid hHeld.2.2.2.out
          clear hHeld hS S0 HK2 c1
          cases y
          · have HOw := Lib.hid (HQ.out.step (Below.refl _ _).drew)
            go_wp2_with fail
            have S0 := HSu.out _ HOw.out.low
            have HAl := Lib.hid (HOw.out.low.trans ((box_below v2.drew (chB (editG op id (nm, x)))).mono HOw.out.low.size))
            refine wp_region_held_drew (S := fun V => V.cell? ⟨b, off + i * 2, none⟩ = some (.string nm) ∧ V.cell? ⟨b, off + i * 2 + 1, none⟩ = some (.slice (some ⟨vb, voff, none⟩) vs.length vc) ∧ V.cell? ⟨vb, voff + j, none⟩ = some (.string x) ∧ Hid (Below w1.heap.size w1 V)) (by kernel_rfl) (S0) (fun hS => ?_)
            refine wpAnyH_take (i := 0) (oi := { dst := some 47, op := _, type := _, pos := _, after := _, guard := _ }) (v := ?_) rfl (by kernel_rfl) (by kernel_rfl) (by kernel_rfl) (fun _ _ _ h => h) (Or.inl ⟨by rfl, ?_⟩) (by assumption) ?_
            rotate_left
            · intro w hSw
              try dsimp only at hSw
              go_simp
              try with_reducible rfl
            try simp only [Act.put, List.setIfInBounds_toArray, List.set_cons_zero, List.set_cons_succ]
            refine wpAnyH_take (i := 1) (oi := { dst := some 48, op := _, type := _, pos := _, after := _, guard := _ }) (v := ?_) rfl (by kernel_rfl) (by kernel_rfl) (by kernel_rfl) (fun _ _ _ h => h) (Or.inl ⟨by rfl, ?_⟩) (by assumption) ?_
            rotate_left
            · intro w hSw
              try dsimp only at hSw
              go_simp
              try with_reducible rfl
            try simp only [Act.put, List.setIfInBounds_toArray, List.set_cons_zero, List.set_cons_succ]
            refine wpAnyH_take (i := 2) (oi := { dst := some 49, op := _, type := _, pos := _, after := _, guard := _ }) (v := ?_) rfl (by kernel_rfl) (by kernel_rfl) (by kernel_rfl) (fun _ _ _ h => h) (Or.inl ⟨by rfl, ?_⟩) (by assumption) ?_
            rotate_left
            · intro w hSw
              try dsimp only at hSw
              go_simp
              try with_reducible rfl
            try simp only [Act.put, List.setIfInBounds_toArray, List.set_cons_zero, List.set_cons_succ]
            refine wpAnyH_take (i := 3) (oi := { dst := some 50, op := _, type := _, pos := _, after := _, guard := _ }) (v := ?_) rfl (by kernel_rfl) (by kernel_rfl) (by kernel_rfl) (fun _ _ _ h => h) (Or.inl ⟨by rfl, ?_⟩) (by assumption) ?_
            rotate_left
            · intro w hSw
              try dsimp only at hSw
              go_simp
              try with_reducible rfl
            try simp only [Act.put, List.setIfInBounds_toArray, List.set_cons_zero, List.set_cons_succ]
            refine wpAnyH_take (i := 4) (oi := { dst := some 51, op := _, type := _, pos := _, after := _, guard := _ }) (v := ?_) rfl (by kernel_rfl) (by kernel_rfl) (by kernel_rfl) (fun _ _ _ h => h) (Or.inl ⟨by rfl, ?_⟩) (by assumption) ?_
            rotate_left
            · intro w hSw
              try dsimp only at hSw
              go_simp
              try with_reducible rfl
            try simp only [Act.put, List.setIfInBounds_toArray, List.set_cons_zero, List.set_cons_succ]
            refine wpAnyH_take (i := 5) (oi := { dst := some 52, op := _, type := _, pos := _, after := _, guard := _ }) (v := ?_) rfl (by kernel_rfl) (by kernel_rfl) (by kernel_rfl) (fun _ _ _ h => h) (Or.inl ⟨by rfl, ?_⟩) (by assumption) ?_
            rotate_left
            · intro w hSw
              try dsimp only at hSw
              go_simp
              try with_reducible rfl
            try simp only [Act.put, List.setIfInBounds_toArray, List.set_cons_zero, List.set_cons_succ]
            refine wpAnyH_take (i := 6) (oi := { dst := some 53, op := _, type := _, pos := _, after := _, guard := _ }) (v := ?_) rfl (by kernel_rfl) (by kernel_rfl) (by kernel_rfl) (fun _ _ _ h => h) (Or.inl ⟨by rfl, ?_⟩) (by assumption) ?_
            rotate_left
            · intro w hSw
              try dsimp only at hSw
              go_simp
              try with_reducible rfl
            try simp only [Act.put, List.setIfInBounds_toArray, List.set_cons_zero, List.set_cons_succ]
            refine wpAnyH_take (i := 7) (oi := { dst := some 54, op := _, type := _, pos := _, after := _, guard := _ }) (v := ?_) rfl (by kernel_rfl) (by kernel_rfl) (by kernel_rfl) (fun _ _ _ h => h) (Or.inl ⟨by rfl, ?_⟩) (by assumption) ?_
            rotate_left
            · intro w hSw
              try dsimp only at hSw
              go_simp
              try with_reducible rfl
            try simp only [Act.put, List.setIfInBounds_toArray, List.set_cons_zero, List.set_cons_succ]
            refine wpAnyH_take (i := 8) (oi := { dst := some 55, op := _, type := _, pos := _, after := _, guard := _ }) (v := ?_) rfl (by kernel_rfl) (by kernel_rfl) (by kernel_rfl) (fun _ _ _ h => h) (Or.inl ⟨by rfl, ?_⟩) (by assumption) ?_
            rotate_left
            · intro w hSw
              try dsimp only at hSw
              go_simp
              try with_reducible rfl
            try simp only [Act.put, List.setIfInBounds_toArray, List.set_cons_zero, List.set_cons_succ]
            refine wpAnyH_take (i := 9) (oi := { dst := some 56, op := _, type := _, pos := _, after := _, guard := _ }) (v := ?_) rfl (by kernel_rfl) (by kernel_rfl) (by kernel_rfl) (fun _ _ _ h => h) (Or.inl ⟨by rfl, ?_⟩) (by assumption) ?_
            rotate_left
            · intro w hSw
              try dsimp only at hSw
              go_simp
              try with_reducible rfl
            try simp only [Act.put, List.setIfInBounds_toArray, List.set_cons_zero, List.set_cons_succ]
            refine wpAnyH_take (i := 10) (oi := { dst := some 57, op := _, type := _, pos := _, after := _, guard := _ }) (v := ?_) rfl (by kernel_rfl) (by kernel_rfl) (by kernel_rfl) (fun _ _ _ h => h) (Or.inl ⟨by rfl, ?_⟩) (by assumption) ?_
            rotate_left
            · intro w hSw
              try dsimp only at hSw
              go_simp
              try with_reducible rfl
            try simp only [Act.put, List.setIfInBounds_toArray, List.set_cons_zero, List.set_cons_succ]
            refine wpAnyH_take (i := 11) (oi := { dst := some 58, op := _, type := _, pos := _, after := _, guard := _ }) (v := ?_) rfl (by kernel_rfl) (by kernel_rfl) (by kernel_rfl) (fun _ _ _ h => h) (Or.inl ⟨by rfl, ?_⟩) (by assumption) ?_
            rotate_left
            · intro w hSw
              try dsimp only at hSw
              go_simp
              try with_reducible rfl
            try simp only [Act.put, List.setIfInBounds_toArray, List.set_cons_zero, List.set_cons_succ]
            refine wpAnyH_take (i := 12) (oi := { dst := some 59, op := _, type := _, pos := _, after := _, guard := _ }) (v := ?_) rfl (by kernel_rfl) (by kernel_rfl) (by kernel_rfl) (fun _ _ _ h => h) (Or.inl ⟨by rfl, ?_⟩) (by assumption) ?_
            rotate_left
            · intro w hSw
              try dsimp only at hSw
              go_simp
              try with_reducible rfl
            try simp only [Act.put, List.setIfInBounds_toArray, List.set_cons_zero, List.set_cons_succ]
            refine wpAnyH_take (i := 13) (oi := { dst := some 60, op := _, type := _, pos := _, after := _, guard := _ }) (v := ?_) rfl (by kernel_rfl) (by kernel_rfl) (by kernel_rfl) (fun _ _ _ h => h) (Or.inl ⟨by rfl, ?_⟩) (by assumption) ?_
            rotate_left
            · intro w hSw
              try dsimp only at hSw
              go_simp
              try with_reducible rfl
            try simp only [Act.put, List.setIfInBounds_toArray, List.set_cons_zero, List.set_cons_succ]
            refine wpAnyH_take (i := 14) (oi := { dst := some 61, op := _, type := _, pos := _, after := _, guard := _ }) (v := ?_) rfl (by kernel_rfl) (by kernel_rfl) (by kernel_rfl) (fun _ _ _ h => h) (Or.inl ⟨by rfl, ?_⟩) (by assumption) ?_
            rotate_left
            · intro w hSw
              try dsimp only at hSw
              go_simp
              try with_reducible rfl
            try simp only [Act.put, List.setIfInBounds_toArray, List.set_cons_zero, List.set_cons_succ]
            refine wpAnyH_take (i := 15) (oi := { dst := some 62, op := _, type := _, pos := _, after := _, guard := _ }) (v := ?_) rfl (by kernel_rfl) (by kernel_rfl) (by kernel_rfl) (fun _ _ _ h => h) (Or.inl ⟨by rfl, ?_⟩) (by assumption) ?_
            rotate_left
            · intro w hSw
              try dsimp only at hSw
              go_simp
              try with_reducible rfl
            try simp only [Act.put, List.setIfInBounds_toArray, List.set_cons_zero, List.set_cons_succ]
            refine wpAnyH_take (i := 16) (oi := { dst := some 63, op := _, type := _, pos := _, after := _, guard := _ }) (v := ?_) rfl (by kernel_rfl) (by kernel_rfl) (by kernel_rfl) (fun _ _ _ h => h) (Or.inl ⟨by rfl, ?_⟩) (by assumption) ?_
            rotate_left
            · intro w hSw
              try dsimp only at hSw
              go_simp
              try with_reducible rfl
            try simp only [Act.put, List.setIfInBounds_toArray, List.set_cons_zero, List.set_cons_succ]
            refine wpAnyH_ready (rs := [17]) (by kernel_rfl) (by simp) ?_
            refine AllReadyH.cons rfl (fun K hK => ?_) AllReadyH.nil
            go_simp
            refine hK.out _ _ ?_ (fun hHeld => ?_)
            · exact HSu.out _ HAl.out
            clear hK K
            try simp only [Act.put, List.setIfInBounds_toArray, List.set_cons_zero, List.set_cons_succ]
            refine wpAnyH_ready (rs := [18]) (by kernel_rfl) (by simp) ?_
            refine AllReadyH.cons rfl (fun K hK => ?_) AllReadyH.nil
            refine step_push_ch v2.drew HOw.out.own _ _ (editG op id (nm, x)) rfl rfl ?_ ?_ HQl.out HOw.out.low.size ?_
            · rfl
            · rfl
            intro v3 W3 hown3 hb3
            have HI3 := Lib.hid (HOw.out.low.trans hb3.out)
            refine hK.out _ _ ?_ (fun hHeld => ?_)
            · exact HSu.out _ HI3.out
            clear hK K
            try simp only [Act.put, List.setIfInBounds_toArray, List.set_cons_zero, List.set_cons_succ]
            refine wpAnyH_take (i := 19) (oi := { dst := some 9, op := _, type := _, pos := _, after := _, guard := _ }) (v := ?_) rfl (by kernel_rfl) (by kernel_rfl) (by kernel_rfl) (fun _ _ _ h => h) (Or.inl ⟨by rfl, ?_⟩) (by assumption) ?_
            rotate_left
            · intro w hSw
              try dsimp only at hSw
              go_simp
              try with_reducible rfl
            try simp only [Act.put, List.setIfInBounds_toArray, List.set_cons_zero, List.set_cons_succ]
            refine wpAnyH_done (by kernel_rfl) ?_ _
            rw [← show chcells (A ++ [editG op id (nm, x)]) = chcells A ++ gcells (editG op id (nm, x)) from by simp [chcells]] at hown3
            go_wp2_with fail
            go_roundw
            case rel => exact ⟨j + 1, by omega, by go_num, Lib.hid (by rw [HNx.out]; exact ⟨HI3.out, by simpa using hown3⟩)⟩
            case measure => simp [intOf]; omega
          · go_wp2_with fail
            go_roundw
            case rel => exact ⟨j + 1, by omega, by go_num, Lib.hid (by rw [HNx.out]; simpa using HQ.out)⟩
            case measure => simp [intOf]; omega
        · have e2 : ¬ (j : Int) < (vs.length : Int) := by omega
          obtain rfl : j = vs.length := by omega
          have HE := Lib.hid (show vs.take vs.length = vs from List.take_length)
          have HI := Lib.hid (show MiI w1 ((withoutL (prO (L.take (i + 1))) R).map (editG op id)) _ _ from by rw [HM.out]; have h1 := HQ.out; rw [HE.out] at h1; exact h1)
          go_wp2_with fail
          go_roundw
          case rel => exact ⟨i + 1, by omega, by go_num, HI⟩
          case measure => simp [intOf]; omega
    · have e1 : ¬ (i : Int) < (xn : Int) := by omega
      obtain rfl : i = xn := by omega
      have HE := Lib.hid (show L.take i = L from List.take_of_length_le (by rw [HN.out]; exact Nat.le_refl _))
      rw [HE.out] at HI
      go_wp2_with fail
      go_ret
      exact ⟨_, rfl, by rw [HMs.out]; exact HI.out.own.mono HW.out.size, HW.out.trans (HI.out.low.mono HW.out.size)⟩
end Go.Proofs.YtbkignlbcneddaaGreatDoor
end

section
/-
  Contract of the specification's Edits. Condition: few attributes with at most 100000 values.
-/
set_option maxRecDepth 100000
namespace Go.Proofs.YtbkignlbcneddaaGreatDoor
open Go.RowKit Go.PlainAid
open Csn (KbC kbc_new box_below)
theorem miss_len {l : List At} (id : ByteArray) (op : Int) (k : List At) (hF : Few l) : (missG id op l k).length ≤ 1100000 := by
  unfold missG
  rw [List.length_map]
  refine Nat.le_trans (wo_le _ _) ?_
  rw [prs_is, prO_len]
  exact (few_nf hF).vals
set_option maxHeartbeats 4000000 in
theorem redits_s (id : ByteArray) (ao bo : Option Addr) (n m cap dap : Nat) (l k : List At) (w : World) (h : AttrsAt w ao n cap l) (hk : AttrsAt w bo m dap k) (hF : Few l) (hG : Few k) :
    Calls Tryz.prog 33 #[.string id, .slice ao n cap, .slice bo m dap] w fun e w' => ∃ v, e = .returned v ∧ w'.ownsRow w.heap.size 26 8 v (editsG id l k).length (chcells (editsG id l k)) ∧ Below w.heap.size w w' := by
  have HC := Lib.hid (missing_s id 5 ao bo n m cap dap l k w h hk hF hG)
  have HD := Lib.hid (fun V (hb : Below w.heap.size w V) => missing_s id 4 bo ao m n dap cap k l V (hk.below hb) (h.below hb) hG hF)
  have HL := Lib.hid (miss_len id 5 k hF)
  have HM := Lib.hid (miss_len id 4 l hG)
  have HE := Lib.hid (show editsG id l k = missG id 5 l k ++ missG id 4 k l from rfl)
  obtain ⟨X, hX⟩ : ∃ X, missG id 5 l k = X := ⟨_, rfl⟩
  obtain ⟨Y, hY⟩ : ∃ Y, missG id 4 k l = Y := ⟨_, rfl⟩
  rw [hX] at HC HL HE
  rw [hY] at HD HM HE
  have HN := Lib.hid (show X.length + Y.length ≤ 1000000000 from by have h1 := HL.out; have h2 := HM.out; omega)
  clear h hk hF hG hX hY HL HM
  go_enter Tryz.func33, Tryz.ntmps33
  go_wp2_with fail
  refine HC.out.mono ?_
  rintro e w1 ⟨v1, rfl, hrow, hb⟩
  have HRow := Lib.hid hrow
  have HW := Lib.hid hb
  clear hrow hb HC
  go_wp2_with fail
  refine (HD.out w1 HW.out).mono ?_
  rintro e w2 ⟨v2, rfl, hrow, hb⟩
  obtain ⟨zo, zc, hz, hzs⟩ := chs_of_owns hrow
  subst hz
  have HZ := Lib.hid hzs
  have HRow := Lib.hid (own_below HRow.out hb)
  have HW := Lib.hid (HW.out.trans (hb.mono HW.out.size))
  clear hrow hb hzs
  go_wp2_with (at_builtin; go_loud (refine app_chs w2 HRow.out (.tmp 10) (.tmp 14) zo Y.length zc Y ?_ ?_ ?_ ?_ ?_ ?_ ?_ ?_; exact rfl; exact rfl; exact rfl; exact rfl; exact HZ.out; exact HN.out; exact HW.out.size; intro v7 w7 hown hb))
  go_ret
  rw [← chcells_app] at hown
  exact ⟨v7, rfl, by rw [HE.out, List.length_append]; exact hown, HW.out.trans hb⟩
end Go.Proofs.YtbkignlbcneddaaGreatDoor
end

section
/-
  The candidate that the reference lays from a line's words, and that checking it and its line says the same as reading. Nothing of the program stands here. No condition.
-/
set_option maxRecDepth 100000
namespace Go.Proofs.YtbkignlbcneddaaGreatDoor
open Go.PlainAid
open Csn (Cn Vld vldC parEC parVC fmtS fmtL parEC_fmt parEC_ok)
end Go.Proofs.YtbkignlbcneddaaGreatDoor
end

section
/-
  Contract of the reference's Parse of a line. Condition: a text of at most 1000000 bytes.
-/
set_option maxRecDepth 100000
namespace Go.Proofs.YtbkignlbcneddaaGreatDoor
open Go.RowKit Go.PlainAid
open Csn (Cn cnV cnB KbC kbc_new box_below box_lt parEC parVC vldC fmtS TzOk)
/-- what is kept: the candidate's box, how far the world has gone since the words were made -/
structure RqP (w1 : World) (g : Chg) (W : World) : Prop where
  low : Below w1.heap.size w1 W
  box : KbC W w1.heap.size (chB g)
theorem RqP.step {w1 W X : World} {g : Chg} (h : RqP w1 g W) (hb : Below W.heap.size W X) : RqP w1 g X := ⟨h.low.trans (hb.mono h.low.size), Csn.KbC.step h.box hb⟩
theorem RqP.set {w1 W : World} {g g' : Chg} (k : Nat) (u : Value) (h : RqP w1 g W) (e : (gcells g).set k u = gcells g') : RqP w1 g' (W.setCell ⟨w1.heap.size, k, none⟩ u) :=
  ⟨h.low.setCell (p := ⟨w1.heap.size, k, none⟩) (Nat.le_refl _) u, kbc_set k u h.box e⟩
end Go.Proofs.YtbkignlbcneddaaGreatDoor
end

section
/-
  Contract of the reference's Read. Condition: a text of at most 1000000 bytes.
-/
set_option maxRecDepth 100000
namespace Go.Proofs.YtbkignlbcneddaaGreatDoor
open Go.RowKit Go.PlainAid
open Csn (Cn cnV cnB KbC kbc_new box_below box_lt parEC parVC vldC fmtS TzOk)
end Go.Proofs.YtbkignlbcneddaaGreatDoor
end

section
/-
  Pure facts of the law's examples. No condition.
-/
set_option maxRecDepth 100000
namespace Go.Proofs.YtbkignlbcneddaaGreatDoor
open Go.RowKit Go.PlainAid
open Csn (Cn cnV cnB KbC kbc_new box_below box_lt parEC parVC vldC fmtS TzOk CnsAt)
def aN : Cn := (5, 1, 0)
def aM : Cn := (3, 0, 0)
def aId : ByteArray := fmtS aM
def rDrop (id : ByteArray) : Chg := ⟨aN, 5, id, ⟨#[]⟩, ⟨#[99, 110]⟩, ⟨#[97, 32, 98]⟩⟩
def rFirst (id : ByteArray) : Chg := ⟨aM, 2, id, ⟨#[]⟩, ⟨#[]⟩, ⟨#[]⟩⟩
def rBad (id : ByteArray) : Chg := ⟨aM, 2, id, ⟨#[]⟩, ⟨#[]⟩, ⟨#[97]⟩⟩
def rEmpty (id : ByteArray) : Chg := ⟨aN, 5, id, ⟨#[]⟩, ⟨#[99, 110]⟩, ⟨#[]⟩⟩
abbrev aDrop : Chg := rDrop aId
abbrev aFirst : Chg := rFirst aId
abbrev aBad : Chg := rBad aId
abbrev aEmpty : Chg := rEmpty aId
def attA : List At := [(⟨#[99, 110]⟩, [⟨#[97]⟩])]
def attB : List At := [(⟨#[99, 110]⟩, [⟨#[98]⟩])]
def edG (id : ByteArray) : List Chg := [⟨(0, 0, 0), 5, id, ⟨#[]⟩, ⟨#[99, 110]⟩, ⟨#[97]⟩⟩, ⟨(0, 0, 0), 4, id, ⟨#[]⟩, ⟨#[99, 110]⟩, ⟨#[98]⟩⟩]
theorem aw1 : chkG aDrop = 0 := by decide +kernel
theorem aw2 : lnV aDrop = (((⟨#[100, 114, 111, 112, 32]⟩ : ByteArray) ++ fmtS aN) ++ ⟨#[32]⟩ ++ aId) ++ ⟨#[32, 99, 110, 32, 97, 37, 50, 48, 98]⟩ := by decide +kernel
theorem aw3 : chkG aBad = 4 := by decide +kernel
theorem aw4 : chkG aEmpty = 8 := by decide +kernel
theorem aw5 : (rdG ⟨#[120, 10]⟩).2.1 = 1 ∧ (rdG ⟨#[120, 10]⟩).2.2 = 4 := by decide +kernel
theorem aw6 : vecG [aDrop, aFirst] = [aN] := by decide +kernel
theorem aw7 : sinceG [aDrop, aFirst] [aN] = [] := by decide +kernel
theorem aw8 : editsG aId attA attB = edG aId := by decide +kernel
theorem aw9 : mergeG [aDrop, aFirst] [aFirst] = [aFirst, aDrop] := by decide +kernel
theorem aw10 : aId.size ≤ 22 := by decide +kernel
theorem small_dec {l : List ByteArray} (h : l.all (fun v => decide (v.size ≤ 1000)) = true) : SmallS l := fun v hv => by
  have := List.all_eq_true.1 h v hv
  have := of_decide_eq_true this
  omega
theorem smallA_dec {l : List At} (h : l.all (fun a => decide (a.1.size ≤ 1000) && a.2.all (fun v => decide (v.size ≤ 1000))) = true) : SmallA l := fun a ha => by
  have := List.all_eq_true.1 h a ha
  rw [Bool.and_eq_true] at this
  exact ⟨by have := of_decide_eq_true this.1; omega, small_dec this.2⟩
theorem few_dec {l : List At} (h : (l.all (fun a => decide (a.1.size ≤ 1000) && a.2.all (fun v => decide (v.size ≤ 1000))) && decide (sumV l ≤ 1000) && decide (l.length ≤ 40)) = true) : Few l := by
  rw [Bool.and_eq_true, Bool.and_eq_true] at h
  exact ⟨smallA_dec h.1.1, by have := of_decide_eq_true h.1.2; omega, by have := of_decide_eq_true h.2; omega⟩
theorem few_a : Few attA := few_dec (by decide +kernel)
theorem few_b : Few attB := few_dec (by decide +kernel)
theorem sum_a : sumV attA ≤ 100000 := by decide +kernel
theorem sum_b : sumV attB ≤ 100000 := by decide +kernel
theorem strs_one (w : World) (a : ByteArray) : StrsAt (w.alloc (.cells #[.string a] 9)) (some ⟨w.heap.size, 0, none⟩) 1 1 [a] :=
  ⟨rfl, Nat.le_refl _, by decide, fun _ => ⟨_, 0, rfl, by simp, fun j hj => by
    have hj' : j = 0 := by simp at hj; omega
    subst hj'
    exact Csn.KbC.cell (kbc_new w _) rfl⟩⟩
/-- a slice of one attribute with one value, as a literal lays it -/
theorem atts_one (w : World) (n a : ByteArray) : AttrsAt ((w.alloc (.cells #[.string a] 9)).alloc (.cells #[.string n, .slice (some ⟨w.heap.size, 0, none⟩) 1 1] 60)) (some ⟨w.heap.size + 1, 0, none⟩) 1 1 [(n, [a])] :=
  have hb := kbc_new (w.alloc (.cells #[.string a] 9)) (.cells #[.string n, .slice (some ⟨w.heap.size, 0, none⟩) 1 1] 60)
  ⟨rfl, Nat.le_refl _, by decide, fun _ => ⟨_, 0, rfl, by simp, fun j hj => by
    have hj' : j = 0 := by omega
    subst hj'
    rw [World.size_alloc] at hb
    exact ⟨Csn.KbC.cell hb rfl, _, _, _, Csn.KbC.cell hb rfl, (strs_one w a).below (box_below _ _)⟩⟩⟩
/-- a slice of records that a literal lays -/
theorem chs_new (w : World) (l : List Chg) (h : l.length ≤ maxLen) : ChsAt (w.alloc (.cells (chcells l).toArray 26)) (some ⟨w.heap.size, 0, none⟩) l.length l.length l :=
  ⟨rfl, Nat.le_refl _, h, fun _ => ⟨w.heap.size, 0, rfl, by simp, fun j hj k hk => by
    rw [Nat.zero_add, ← chcells_at l j k hj hk]
    have hb := heap_alloc_new w (.cells (chcells l).toArray 26)
    unfold World.cell?
    simp only [hb]
    simp⟩, fun e => by cases e⟩
theorem chs_two (w : World) (g h : Chg) : ChsAt (w.alloc (.cells (gcells g ++ gcells h).toArray 26)) (some ⟨w.heap.size, 0, none⟩) 2 2 [g, h] := by
  have := chs_new w [g, h] (show 2 ≤ maxLen by decide)
  rw [show chcells [g, h] = gcells g ++ gcells h by simp [chcells]] at this
  exact this
theorem chs_one (w : World) (g : Chg) : ChsAt (w.alloc (.cells (gcells g).toArray 26)) (some ⟨w.heap.size, 0, none⟩) 1 1 [g] := by
  have := chs_new w [g] (show 1 ≤ maxLen by decide)
  rw [show chcells [g] = gcells g by simp [chcells]] at this
  exact this
theorem line_k (t s r o : Int) (id nm ak vl x : ByteArray) (z : Int) (w : World) (hz : SmG ⟨(t, s, r), o, id, nm, ak, vl⟩) (ho : COk w) (hx : lnV ⟨(t, s, r), o, id, nm, ak, vl⟩ = x) (hc : chkG ⟨(t, s, r), o, id, nm, ak, vl⟩ = z) :
    Calls Tryz.prog 13 #[.agg #[.int .i64 t, .int .i64 s, .int .i64 r, .int .i64 o, .string id, .string nm, .string ak, .string vl]] w fun e w' => e = .returned (.tuple #[.string x, .int .i64 z]) ∧ Below w.heap.size w w' := by
  subst hx hc; exact lineE_s ⟨(t, s, r), o, id, nm, ak, vl⟩ w hz ho
theorem chk_k (t s r o : Int) (id nm ak vl : ByteArray) (z : Int) (w : World) (hz : SmG ⟨(t, s, r), o, id, nm, ak, vl⟩) (ho : MaxOk w) (hc : chkG ⟨(t, s, r), o, id, nm, ak, vl⟩ = z) :
    Calls Tryz.prog 17 #[.agg #[.int .i64 t, .int .i64 s, .int .i64 r, .int .i64 o, .string id, .string nm, .string ak, .string vl]] w fun e w' => e = .returned (.int .i64 z) ∧ Below w.heap.size w w' := by
  subst hc; exact chkg_s ⟨(t, s, r), o, id, nm, ak, vl⟩ w hz ho
theorem vec_k (ao : Option Addr) (n cap : Nat) (l : List Chg) (c : List Cn) (q : Nat) (w : World) (h : ChsAt w ao n cap l) (hn : n ≤ 1000000) (hc : vecG l = c) (hq : c.length = q) :
    Calls Tryz.prog 29 #[.slice ao n cap] w fun e w' => ∃ vo vc, e = .returned (.slice vo q vc) ∧ CnsAt w' vo q vc c ∧ Below w.heap.size w w' := by
  subst hc hq
  exact (vector_s ao n cap l w h hn).mono fun e w' ⟨vo, m, vc, he, hv, hb⟩ => by
    have := hv.1
    subst this
    exact ⟨vo, vc, he, hv, hb⟩
theorem since_k (ao : Option Addr) (n cap : Nat) (l : List Chg) (vo : Option Addr) (vn vc : Nat) (cs : List Cn) (r : List Chg) (q : Nat) (w : World) (h : ChsAt w ao n cap l) (hv : CnsAt w vo vn vc cs) (hn : n ≤ 1000000) (hr : sinceG l cs = r) (hq : r.length = q) :
    Calls Tryz.prog 26 #[.slice ao n cap, .slice vo vn vc] w fun e w' => ∃ xo xc, e = .returned (.slice xo q xc) ∧ ChsAt w' xo q xc r ∧ Below w.heap.size w w' := by
  subst hr hq
  exact (since_s ao n cap l vo vn vc cs w h hv hn).mono fun e w' ⟨v, he, hv, hb⟩ => by
    obtain ⟨xo, xc, rfl, hx⟩ := chs_of_owns hv
    exact ⟨xo, xc, he, hx, hb⟩
theorem edits_k (id : ByteArray) (ao bo : Option Addr) (n m cap dap : Nat) (l k : List At) (r : List Chg) (q : Nat) (w : World) (h : AttrsAt w ao n cap l) (hk : AttrsAt w bo m dap k) (hF : Few l) (hG : Few k) (hv : sumV l ≤ 100000) (hu : sumV k ≤ 100000) (hr : editsG id l k = r) (hq : r.length = q) :
    Calls Tryz.prog 32 #[.string id, .slice ao n cap, .slice bo m dap] w fun e w' => ∃ xo xc, e = .returned (.slice xo q xc) ∧ ChsAt w' xo q xc r ∧ Below w.heap.size w w' := by
  subst hr hq
  exact (chedits_s id ao bo n m cap dap l k w h hk hF hG hv hu).mono fun e w' ⟨v, he, hv, hb⟩ => by
    obtain ⟨xo, xc, rfl, hx⟩ := chs_of_owns hv
    exact ⟨xo, xc, he, hx, hb⟩
theorem merge_k (ao bo : Option Addr) (n m cap dap : Nat) (a b r : List Chg) (q : Nat) (w : World) (h : ChsAt w ao n cap a) (k : ChsAt w bo m dap b) (hz : ∀ d ∈ a ++ b, SmG d ∧ cnDom d.c) (hn : n ≤ 10000) (hm : m ≤ 10000) (ho : COk w) (hr : mergeG a b = r) (hq : r.length = q) :
    Calls Tryz.prog 24 #[.slice ao n cap, .slice bo m dap] w fun e w' => ∃ xo xc, e = .returned (.slice xo q xc) ∧ ChsAt w' xo q xc r ∧ Below w.heap.size w w' := by
  subst hr hq
  exact (chmerge_s ao bo n m cap dap a b w h k hz hn hm ho).mono fun e w' ⟨xo, q', xc, he, hx, hb⟩ => by
    have := hx.1
    subst this
    exact ⟨xo, xc, he, hx, hb⟩
theorem read_k (s : ByteArray) (a b : Int) (w : World) (hs : s.size ≤ 1000000) (ho : COk w) (ha : (rdG s).2.1 = a) (hb : (rdG s).2.2 = b) :
    Calls Tryz.prog 21 #[.string s] w fun e w' => ∃ xo xc, e = .returned (.tuple #[.slice xo (rdG s).1.length xc, .int .i64 a, .int .i64 b]) ∧ ChsAt w' xo (rdG s).1.length xc (rdG s).1 ∧ Below w.heap.size w w' := by
  subst ha hb
  exact (chread_s s w hs ho).mono fun e w' ⟨v, he, hv, hb⟩ => by
    obtain ⟨xo, xc, rfl, hx⟩ := chs_of_owns hv
    exact ⟨xo, xc, he, hx, hb⟩
/-- the boxes of awake -/
structure AwG (w : World) (q : Nat) (id : ByteArray) (V : World) : Prop where
  low : Below w.heap.size w V
  ok : COk V
  k1 : KbC V w.heap.size (.cells #[.int .i64 5, .int .i64 1, .int .i64 0] 23)
  k3 : KbC V q (chB (rDrop id))
  k4 : KbC V (q + 1) (chB (rFirst id))
  k5 : KbC V (q + 1 + 1) (chB (rBad id))
  k6 : KbC V (q + 1 + 1 + 1) (chB (rEmpty id))
theorem AwG.step {w V X : World} {q : Nat} {id : ByteArray} (h : AwG w q id V) (hb : Below V.heap.size V X) : AwG w q id X :=
  ⟨h.low.trans (hb.mono h.low.size), h.ok.step hb, Csn.KbC.step h.k1 hb, Csn.KbC.step h.k3 hb, Csn.KbC.step h.k4 hb, Csn.KbC.step h.k5 hb, Csn.KbC.step h.k6 hb⟩
theorem awg_new {w w1 : World} {id : ByteArray} (hb : Below w.heap.size w w1) (ho : COk w1) (h1 : KbC w1 w.heap.size (.cells #[.int .i64 5, .int .i64 1, .int .i64 0] 23)) :
    AwG w w1.heap.size id ((((w1.alloc (chB (rDrop id))).alloc (chB (rFirst id))).alloc (chB (rBad id))).alloc (chB (rEmpty id))) := by
  have b1 := box_below w1 (chB (rDrop id))
  have b2 := box_below (w1.alloc (chB (rDrop id))) (chB (rFirst id))
  have b3 := box_below ((w1.alloc (chB (rDrop id))).alloc (chB (rFirst id))) (chB (rBad id))
  have b4 := box_below (((w1.alloc (chB (rDrop id))).alloc (chB (rFirst id))).alloc (chB (rBad id))) (chB (rEmpty id))
  have t := ((b1.trans (b2.mono b1.size)).trans (b3.mono (Nat.le_trans b1.size b2.size))).trans (b4.mono (Nat.le_trans b1.size (Nat.le_trans b2.size b3.size)))
  have q3 := kbc_new w1 (chB (rDrop id))
  have q4 := kbc_new (w1.alloc (chB (rDrop id))) (chB (rFirst id))
  have q5 := kbc_new ((w1.alloc (chB (rDrop id))).alloc (chB (rFirst id))) (chB (rBad id))
  have q6 := kbc_new (((w1.alloc (chB (rDrop id))).alloc (chB (rFirst id))).alloc (chB (rBad id))) (chB (rEmpty id))
  rw [World.size_alloc] at q4
  rw [World.size_alloc, World.size_alloc] at q5
  rw [World.size_alloc, World.size_alloc, World.size_alloc] at q6
  exact ⟨hb.trans (t.mono hb.size), ho.step t, Csn.KbC.step h1 t, Csn.KbC.step (Csn.KbC.step (Csn.KbC.step q3 b2) b3) b4, Csn.KbC.step (Csn.KbC.step q4 b3) b4, Csn.KbC.step q5 b4, q6⟩
theorem box8 {V : World} {q : Nat} {t s r o : Int} {id nm ak vl : ByteArray} (h : KbC V q (chB ⟨(t, s, r), o, id, nm, ak, vl⟩)) :
    V.cell? ⟨q, 0, none⟩ = some (.int .i64 t) ∧ V.cell? ⟨q, 1, none⟩ = some (.int .i64 s) ∧ V.cell? ⟨q, 2, none⟩ = some (.int .i64 r) ∧ V.cell? ⟨q, 3, none⟩ = some (.int .i64 o) ∧
    V.cell? ⟨q, 4, none⟩ = some (.string id) ∧ V.cell? ⟨q, 5, none⟩ = some (.string nm) ∧ V.cell? ⟨q, 6, none⟩ = some (.string ak) ∧ V.cell? ⟨q, 7, none⟩ = some (.string vl) :=
  ⟨Csn.KbC.cell h rfl, Csn.KbC.cell h rfl, Csn.KbC.cell h rfl, Csn.KbC.cell h rfl, Csn.KbC.cell h rfl, Csn.KbC.cell h rfl, Csn.KbC.cell h rfl, Csn.KbC.cell h rfl⟩
theorem box3 {V : World} {q : Nat} {t s r : Int} (h : KbC V q (.cells #[.int .i64 t, .int .i64 s, .int .i64 r] 23)) :
    V.cell? ⟨q, 0, none⟩ = some (.int .i64 t) ∧ V.cell? ⟨q, 1, none⟩ = some (.int .i64 s) ∧ V.cell? ⟨q, 2, none⟩ = some (.int .i64 r) :=
  ⟨Csn.KbC.cell h rfl, Csn.KbC.cell h rfl, Csn.KbC.cell h rfl⟩
theorem id_small : aId.size ≤ 22 := aw10
theorem sm_of {t s r o : Int} {id nm ak vl : ByteArray} (h : id.size ≤ 22) (h1 : nm.size ≤ 22) (h2 : ak.size ≤ 22) (h3 : vl.size ≤ 22) : SmG ⟨(t, s, r), o, id, nm, ak, vl⟩ :=
  ⟨by show id.size ≤ _; omega, by show nm.size ≤ _; omega, by show ak.size ≤ _; omega, by show vl.size ≤ _; omega⟩
end Go.Proofs.YtbkignlbcneddaaGreatDoor
end
