/-
  Texts of the schema layer and of those beneath it, joined: SchMaR, SchLkL, SchSub, SchLgt, SchRsd, SchOrd. Conditions stand at each contract.
-/
import Derived.BigQuiet
import Derived.Test.YtclfjdnemafmeaaGreatDoorQ02
import Derived.Test.YtclfjdnemafmeaaGreatDoorQ10
import Derived.Test.YtclfjdnemafmeaaGreatDoorQ20
import Derived.Test.YtclfjdnemafmeaaGreatDoorQ23
import Derived.Test.YtclfjdnemafmeaaGreatDoorQ24
import Derived.Test.YtclfjdnemafmeaaGreatDoorQ25
import Derived.Test.YtclfjdnemafmeaaGreatDoorQ26
set_option linter.unusedVariables false
set_option linter.unusedSimpArgs false
set_option linter.unnecessarySimpa false

section
/-
  Contract of the specification's May. Condition: names of at most 1000000000 bytes.
-/
set_option maxRecDepth 100000
namespace Go.Proofs.YtclfjdnemafmeaaGreatDoor
open Go.RowKit Go.PlainAid
theorem step_push_strsG {ops : Array Oper} {o : Oper} {a : Act} {K : Act → World → Prop} {Q : Exit → Act → World → Prop} {E : Prop} (wr : World) {base : Nat} {v : Value} {n : Nat} {xs : List Value} (hown : wr.ownsRow base 9 1 v n xs) (s x : Operand)
    {vo : Option Addr} {vn vc : Nat} {vs : List ByteArray} (hv : StrsAt wr vo vn vc vs) (hgd : o.guard = none)
    (ho : o.op = .call { callee := .builtin .append, args := #[s, x], argTypes := #[36, 36] })
    (hs : a.eval s = v) (hx : a.eval x = .slice vo vn vc) (hn : n + vn ≤ 1000000000) (hbase : base ≤ wr.heap.size)
    (h : ∀ v' w', w'.ownsRow base 9 1 v' (n + vn) (xs ++ scells vs) → wr.grownBy w' v.ownBlock → (v'.ownBlock = v.ownBlock ∨ v'.ownBlock = some wr.heap.size) → K (a.put o.dst v') w') :
    if Region.wanted o (yielded ops a.tmps) = true then Oper.wp Tryz.prog o a wr K Q else E := by
  obtain ⟨i0, hi, hz0, hz1, hz2⟩ := info_parts info_string
  obtain ⟨h1, h2, h3, h4⟩ := hv
  have key : ∀ ad : Addr, vo = some ad → (∀ j u, (scells vs)[j]? = some u → wr.cell? (ad.add j) = some u) → if Region.wanted o (yielded ops a.tmps) = true then Oper.wp Tryz.prog o a wr K Q else E := fun ad e hc =>
    step_append_own_at hgd s x 36 ho base 9 i0 (.string ⟨#[]⟩) 1 16 Tryz.underlying36 hi hz0 hz1 hz2 rfl (by decide) v n xs hs hown ad vn vc (scells vs) (by rw [hx, e]) (by unfold scells; rw [List.length_map]; omega)
      hc (by intro u hu; unfold scells at hu; obtain ⟨y, _, rfl⟩ := List.mem_map.1 hu; rfl) (by unfold maxLen; omega) (by omega) hbase (fun v' w' k1 k2 k3 => h v' w' k1 k2 k3)
  by_cases hp : 0 < vn
  · obtain ⟨b, off, e, hb, hc⟩ := h4 hp
    refine key _ e fun j u hu => ?_
    unfold scells at hu
    rw [List.getElem?_map] at hu
    cases hj : vs[j]? with
    | none => rw [hj] at hu; cases hu
    | some y =>
      rw [hj] at hu
      obtain rfl := (Option.some.inj hu).symm
      have hjl : j < vs.length := (List.getElem?_eq_some_iff.1 hj).1
      have := hc j hjl
      rw [Go.WideShapes.add_plain]
      rw [this]; unfold partAt
      rw [List.getD_eq_getElem?_getD, hj]; rfl
  · have hvn : vn = 0 := by omega
    subst hvn
    have hvs : vs = [] := List.length_eq_zero_iff.1 h1
    subst hvs
    cases vo with
    | some ad => exact key ad rfl (fun j u hu => by simp [scells] at hu)
    | none =>
      have hrun : (Builtin.append_ #[36, 36] o.type #[v, .slice none 0 vc]).run Tryz.prog wr = .ok v wr := by
        rcases hown.2 with ⟨rfl, _⟩ | ⟨g, cap, cur, rfl, _, _, hc, _⟩
        · exact run_append_nothing wr 36 36 o.type 9 i0 Tryz.underlying36 hi none 0 0 (Nat.le_refl _) _ (Src.ofNil wr Tryz.underlying36 vc)
        · exact run_append_nothing wr 36 36 o.type 9 i0 Tryz.underlying36 hi _ _ _ hc _ (Src.ofNil wr Tryz.underlying36 vc)
      have hw : Region.wanted o (yielded ops a.tmps) = true := by simp [Region.wanted, hgd]
      rw [if_pos hw]
      unfold Oper.wp execOp
      simp only [ho, resolve, invoke, builtin, Sem.run_bind, Sem.run_pure, Result.andThen_ok, List.map_toArray, List.map_cons, List.map_nil, hs, hx, hrun]
      exact h v wr (by simpa [scells] using hown) ⟨rfl, rfl, rfl, Nat.le_refl _, fun _ _ _ => rfl⟩ (.inl rfl)
theorem grown_on {w a b : World} {r0 r1 : Option Nat} (h1 : w.grownBy a r0) (h2 : a.grownBy b r1) (h : r1 = r0 ∨ ∃ g, r1 = some g ∧ w.heap.size ≤ g) : w.grownBy b r0 := by
  obtain ⟨o1, t1, u1, s1, b1⟩ := h1
  obtain ⟨o2, t2, u2, s2, b2⟩ := h2
  refine ⟨o2.trans o1, t2.trans t1, u2.trans u1, Nat.le_trans s1 s2, fun k hk hne => (b2 k (Nat.lt_of_lt_of_le hk s1) ?_).trans (b1 k hk hne)⟩
  rcases h with rfl | ⟨g, rfl, hg⟩
  · exact hne
  · intro e; have := Option.some.inj e; omega
theorem FB.grown {w W V : World} {ao : Option Addr} {n cap : Nat} {bo : Option Addr} {m dap : Nat} {r : Option Nat} (h : FB w W ao n cap bo m dap) (hg : W.grownBy V r) (hr : ∀ g, r = some g → w.heap.size + 1 ≤ g) : FB w V ao n cap bo m dap := by
  have hg' := hg
  obtain ⟨o2, t2, u2, s2, b2⟩ := hg
  exact ⟨(b2 _ h.big (fun e => by have := hr _ e.symm; omega)).trans h.box, h.low.grown hg' h.low.size (fun k hk => by have := hr k hk; omega), Nat.lt_of_lt_of_le h.big s2⟩
/-- May under way: the row, what it has left alone -/
structure MayR (w w3 wr : World) (C : List Cl) (ms : List ByteArray) (ks : List Nat) (j : Nat) (s0 v : Value) (N : Nat) : Prop where
  own : wr.ownsRow (w.heap.size + 1) 9 1 v N (scells (ms ++ (ks.take j).flatMap fun q => (clAt C q).may))
  gr : w3.grownBy wr s0.ownBlock
  at_ : v.ownBlock = s0.ownBlock ∨ ∃ g, v.ownBlock = some g ∧ w3.heap.size ≤ g
set_option maxHeartbeats 8000000 in
theorem may7_s (v : Value) (ts : List Ty) (cs : List Cl) (n : ByteArray) (w : World) (h : SchV w v ts cs) (hn : n.size ≤ 1000000000) :
    Calls Tryz.prog 23 #[v, .string n] w fun e w' => ∃ oo oc, e = .returned (.slice oo (mayS (soundC ts cs) n).length oc) ∧ w'.ownsRow w.heap.size 9 1 (.slice oo (mayS (soundC ts cs) n).length oc) (mayS (soundC ts cs) n).length (scells (mayS (soundC ts cs) n)) ∧ Below w.heap.size w w' := by
  have h' := h
  obtain ⟨ao, k, cap, bo, m, dap, rfl, _, hCl, _, hsC⟩ := h'
  have hb0 := (Below.refl w.heap.size w).alloc (Nat.le_refl _) (.cells #[.slice ao k cap, .slice bo m dap] 25)
  have HK0 := Lib.hid (fb_new w ao k cap bo m dap)
  have HC := Lib.hid (must7_s _ ts cs n _ (h.below hb0) hn)
  have HV0 := Lib.hid (h.below hb0)
  have HCl := Lib.hid hCl
  have hml := hCl.1
  have hmx := hCl.2.2.1
  unfold maxLen at hmx
  have hmc := hCl.2.1
  have HML := Lib.hid hml
  obtain ⟨C, hC⟩ : ∃ x, soundC ts cs = x := ⟨_, rfl⟩
  have HCs := Lib.hid (fun q (hq : q < C.length) => show C = cs by rw [← hC] at hq ⊢; exact sound_has hq)
  have HF := Lib.hid (fewC_sound ts cs)
  have HZ := Lib.hid (smC_sound (ts := ts) hsC)
  have HC2 := Lib.hid (fun W hV => lineage7_s (.agg #[.slice ao k cap, .slice bo m dap]) ts cs n W hV hn)
  have HSC := Lib.hid (sound_soundC ts cs)
  have HSL := Lib.hid (soundC_len ts cs)
  rw [hC] at HC HC2 HF HZ HSC HSL ⊢
  clear h hb0 hCl hsC hC hml
  go_enter Tryz.func23, Tryz.ntmps23
  go_wp2_with fail
  refine HC.out.mono ?_
  rintro e w2 ⟨oo, oc, rfl, hown, hb⟩
  have HK2 := Lib.hid (HK0.out.step hb)
  have HV2 := Lib.hid (HV0.out.below hb)
  have hown' : w2.ownsRow (w.heap.size + 1) 9 1 (.slice oo (mustS C n).length oc) (mustS C n).length (scells (mustS C n)) := by simpa using hown
  obtain ⟨ms, hms⟩ : ∃ x, mustS C n = x := ⟨_, rfl⟩
  rw [hms] at hown'
  have HMs := Lib.hid hms
  have hmz : ms.length ≤ 10000 := by
    rw [← hms, mustS_eq]
    refine Nat.le_trans (sortU_len _) ?_
    rw [List.length_map]
    have h1 := lineS_small HSC.out n
    have h2 : ∀ l : List Cl, (∀ c ∈ l, c.must.length ≤ 64) → (l.flatMap fun c => c.must).length ≤ l.length * 64 := by
      intro l
      induction l with
      | nil => intro _; simp
      | cons c l ih =>
        intro h
        have a := h c (by simp)
        have b := ih (fun x hx => h x (by simp [hx]))
        rw [List.flatMap_cons, List.length_append, List.length_cons]; omega
    have h3 := h2 (lineS C n) (fun c hc => (HF.out c (lineS_mem hc)).1)
    have h4 := HSL.out
    omega
  have HOw := Lib.hid hown'
  rw [hms]
  obtain ⟨c0, c1⟩ := HK2.out.cells
  have hw2 : w.heap.size + 1 ≤ w2.heap.size := HK2.out.big
  clear hb hown hown' hms HC HK0 HV0
  go_wp2_with fail
  refine (HC2.out _ HV2.out).mono ?_
  rintro e w1 ⟨io, ic, ks, rfl, hks, hfr, hmap, hlt, hk32, hb⟩
  have HK1 := Lib.hid (HK2.out.step hb)
  have HI := Lib.hid hks
  have HFr := Lib.hid hfr
  have HLt := Lib.hid hlt
  have HE := Lib.hid (show mayS C n = sortU ((ms ++ ks.flatMap fun q => (clAt C q).may).map lowS) by rw [mayS_eq, HMs.out, ← hmap, flat_map])
  have hicx := hks.2.2.1
  unfold maxLen at hicx
  have hicc := hks.2.1
  have M0 : Hid (MayR w w1 w1 C ms ks 0 (.slice oo ms.length oc) (.slice oo ms.length oc) ms.length) := Lib.hid ⟨by rw [List.take_zero, List.flatMap_nil, List.append_nil]; exact own_below HOw.out hb, ⟨rfl, rfl, rfl, Nat.le_refl _, fun _ _ _ => rfl⟩, .inl rfl⟩
  have HRow := Lib.hid (show ∀ g, (Value.slice oo ms.length oc).ownBlock = some g → w.heap.size + 1 ≤ g ∧ g < w2.heap.size from fun g e => HOw.out.lt g e)
  have hw21 := hb.size
  clear hb hks hmap hlt HK2 c0 c1 HOw hfr HC2
  go_wp2_with fail
  go_loopw [5, 7] (fun s5 i wr => ∃ (j : Nat) (ro : Option Addr) (rc N : Nat), N ≤ ms.length + j * 64 ∧ s5 = .slice ro N rc ∧ i = .int .i64 j ∧ j ≤ ks.length ∧ Hid (MayR w w1 wr C ms ks j (.slice oo ms.length oc) (.slice ro N rc) N)) (fun _ i _ => ks.length - (intOf i).toNat)
  case atStart => exact ⟨0, oo, oc, ms.length, by omega, rfl, rfl, Nat.zero_le _, M0⟩
  case round =>
    clear M0
    obtain ⟨j, ro, rc, N, hN, rfl, rfl, hj, HM⟩ := hrel
    have HK := Lib.hid (HK1.out.grown HM.out.gr (fun g e => (HRow.out g e).1))
    have hsz : w1.heap.size ≤ wr.heap.size := HM.out.gr.size
    obtain ⟨c0, c1⟩ := HK.out.cells
    by_cases hlt : j < ks.length
    · have d1 : decide ((j : Int) < (ks.length : Int)) = true := decide_eq_true (by omega)
      have d0 : (0 : Int) ≤ (j : Int) := by omega
      have d3 : (j : Int) < (ks.length : Int) := by omega
      obtain ⟨ib, ioff, rfl, hib, his⟩ := HI.out.2.2.2 (by omega)
      have hic := his j hlt
      have hic : wr.cell? ⟨ib, ioff + j, none⟩ = some (.int .i64 ((ks.getD j 0 : Nat) : Int)) := by
        rw [← hic]
        exact World.cell?_of_block (a := ⟨ib, ioff + j, none⟩) (HM.out.gr.block ib hib (fun e => by have h1 := (HRow.out ib e.symm).2; have h2 := HFr.out ib ioff rfl; omega))
      have hq := HLt.out _ (ks_mem ks j hlt)
      have HT := Lib.hid (ks_take ks j hlt)
      obtain ⟨q, hqq⟩ : ∃ x, ks.getD j 0 = x := ⟨_, rfl⟩
      rw [hqq] at hic hq HT
      have hCc := HCs.out q hq
      have hqm : q < m := by rw [← HML.out, ← hCc]; exact hq
      have q0 : (0 : Int) ≤ (q : Int) := by omega
      have q1 : (q : Int) < (m : Int) := by omega
      obtain ⟨b, off, rfl, hbl, hs⟩ := (HCl.out.below HK.out.low).2.2.2 (by omega)
      obtain ⟨_, _, _, a1, p1, q1, y0, hS1⟩ := hs q hqm
      rw [← hCc] at hS1
      have hml := HF.out _ (cl_mem C q hq)
      obtain ⟨mu, hmu⟩ : ∃ x, (clAt C q).may = x := ⟨_, rfl⟩
      rw [hmu] at hS1
      have HN := Lib.hid hmu
      have HS1 := Lib.hid hS1
      have hp1 := hS1.1
      have hmu64 : p1 ≤ 64 := by rw [← hp1, ← hmu]; exact hml.2
      have hp1x := hS1.2.2.1
      unfold maxLen at hp1x
      have hp1c := hS1.2.1
      clear his hs hqq hCc hmu hS1 hp1 hml
      go_wp2_with fail
      go_region_law (refine step_push_strsG wr.drew (base := w.heap.size + 1) (v := .slice ro N rc) (n := N) (xs := scells (ms ++ (ks.take j).flatMap fun q => (clAt C q).may)) (show World.ownsRow _ _ _ _ _ _ _ from HM.out.own) _ _ (vo := a1) (vn := p1) (vc := q1) (vs := mu) (show StrsAt _ _ _ _ _ from HS1.out) rfl rfl rfl (by simp [Act.eval, Act.put]) (by omega) (by simp; omega) ?_; intro v3 w3 g1 g2 g3; obtain ⟨ao3, cap3, rfl⟩ := row_slice g1; have HO3 := Lib.hid g1; have HB3 := Lib.hid g2; have HAt3 := Lib.hid g3; clear g1 g2 g3)
      all_goals
        have HMn : Hid (MayR w w1 w3 C ms ks (j + 1) (.slice oo ms.length oc) (.slice ao3 (N + p1) cap3) (N + p1)) := Lib.hid ⟨by
          rw [HT.out, List.flatMap_append, ← List.append_assoc, scells_app, List.flatMap_cons, List.flatMap_nil, List.append_nil, HN.out]
          exact HO3.out, grown_on HM.out.gr (show wr.grownBy w3 (Value.slice ro N rc).ownBlock from ⟨HB3.out.os, HB3.out.tape, HB3.out.output, HB3.out.size, HB3.out.block⟩) HM.out.at_, by
          rcases HAt3.out with h | h
          · rcases HM.out.at_ with h2 | ⟨g, h2, h3⟩
            · exact .inl (h.trans h2)
            · exact .inr ⟨g, h.trans h2, h3⟩
          · exact .inr ⟨_, h, hsz⟩⟩
        clear HB3 HO3 HAt3
        go_wp2_with fail
        go_roundw
        case rel => exact ⟨j + 1, ao3, cap3, N + p1, by omega, rfl, by go_num, by omega, HMn⟩
        case measure => simp [intOf]; omega
    · obtain rfl : ks.length = j := by omega
      have d1 : decide ((ks.length : Int) < (ks.length : Int)) = false := decide_eq_false (by omega)
      obtain ⟨L, hL⟩ : ∃ x, (ms ++ ks.flatMap fun q => (clAt C q).may) = x := ⟨_, rfl⟩
      have hLs : ∀ s ∈ L, s.size ≤ 1000000000 := by
        rw [← hL]
        intro s hs
        rcases List.mem_append.1 hs with h | h
        · rw [← HMs.out, mustS_eq, sortU_mem] at h
          obtain ⟨x, hx, rfl⟩ := List.mem_map.1 h
          obtain ⟨c, hc, hx⟩ := List.mem_flatMap.1 hx
          rw [lowS_size]
          exact (HZ.out c (lineS_mem hc)).2.2.1 x hx
        · exact flat_each (f := fun c => c.may) (P := fun s => s.size ≤ 1000000000) (fun c hc s hs => (HZ.out c hc).2.2.2 s hs) HLt.out s h
      have hO := HM.out.own
      rw [List.take_length, hL] at hO
      have hLN : L.length = N := by
        have := hO.1
        unfold scells at this
        rw [List.length_map] at this
        omega
      obtain ⟨ro', rc', e, hst⟩ := strs_own hO hLN
      simp only [Value.slice.injEq] at e
      obtain ⟨rfl, _, rfl⟩ := e
      have HLw := Lib.hid (lower7_s ro N rc L wr hst hLs (by omega))
      rw [← hL, ← HE.out] at HLw
      have hwr := HK.out.low.size
      clear hO hst hL hLs
      go_wp2_with fail
      refine HLw.out.mono ?_
      rintro e w4 ⟨oo', oc', rfl, ho, hb⟩
      have HO4 := Lib.hid (ho.mono hwr)
      have HB4 := Lib.hid (HK.out.low.trans (hb.mono hwr))
      clear ho hb
      go_wp2_with fail
      go_ret
      exact ⟨_, _, rfl, HO4.out, HB4.out⟩
end Go.Proofs.YtclfjdnemafmeaaGreatDoor
end

section
/-
  What the law SchemaLooks shares: lists that are the same, the specification's lists as values, the facts of its drawn region. No condition.
-/
set_option maxRecDepth 100000
namespace Go.Proofs.YtclfjdnemafmeaaGreatDoor
open Go.RowKit Go.PlainAid
theorem lists_same {u v : Value} {l : List ByteArray} (w : World) (h : StrsV w u l) (k : StrsV w v l) : Calls Tryz.prog 17 #[u, v] w fun e w' => e = .returned (.bool true) ∧ Below w.heap.size w w' := by
  obtain ⟨ao, n, cap, rfl, h⟩ := h
  obtain ⟨bo, m, dap, rfl, k⟩ := k
  refine (lists_s ao bo n m cap dap l l w h k).mono fun e w' ⟨he, hb⟩ => ⟨?_, hb⟩
  rw [he, decide_eq_true rfl]
theorem must7_v (v : Value) (ts : List Ty) (cs : List Cl) (n : ByteArray) (w : World) (h : SchV w v ts cs) (hn : n.size ≤ 1000000000) :
    Calls Tryz.prog 21 #[v, .string n] w fun e w' => ∃ u, e = .returned u ∧ StrsV w' u (mustS (soundC ts cs) n) ∧ Below w.heap.size w w' :=
  (must7_s v ts cs n w h hn).mono fun e w' ⟨oo, oc, he, ho, hb⟩ => ⟨_, he, strsV_own ho, hb⟩
theorem may7_v (v : Value) (ts : List Ty) (cs : List Cl) (n : ByteArray) (w : World) (h : SchV w v ts cs) (hn : n.size ≤ 1000000000) :
    Calls Tryz.prog 23 #[v, .string n] w fun e w' => ∃ u, e = .returned u ∧ StrsV w' u (mayS (soundC ts cs) n) ∧ Below w.heap.size w w' :=
  (may7_s v ts cs n w h hn).mono fun e w' ⟨oo, oc, he, ho, hb⟩ => ⟨_, he, strsV_own ho, hb⟩
end Go.Proofs.YtclfjdnemafmeaaGreatDoor
end

section
/-
  Contract of the law's subset, where it is one. No condition.
-/
set_option maxRecDepth 100000
namespace Go.Proofs.YtclfjdnemafmeaaGreatDoor
open Go.RowKit Go.PlainAid
theorem below_drwN (w : World) (q : Nat) : Below w.heap.size w (w.drewN q) := ⟨rfl, rfl, rfl, Nat.le_refl _, fun _ _ => rfl⟩
theorem beq_bytes {x y : ByteArray} (h : x ≠ y) : (x.toList == y.toList) = false := by
  rw [Lib.toList_data, Lib.toList_data]; exact beq_false_of_ne (fun k => h (ba_ext k))
set_option maxHeartbeats 4000000 in
theorem subset_s (ao : Option Addr) (n cap : Nat) (xs : List ByteArray) (bo : Option Addr) (m dap : Nat) (ys : List ByteArray) (w : World) (h : StrsAt w ao n cap xs) (k : StrsAt w bo m dap ys) (hsub : ∀ s ∈ xs, s ∈ ys) :
    Calls Tryz.prog 36 #[.slice ao n cap, .slice bo m dap] w fun e w' => e = .returned (.bool true) ∧ Below w.heap.size w w' := by
  have HX := Lib.hid h
  have HY := Lib.hid k
  have HS := Lib.hid hsub
  have hxl := h.2.2.1
  have hyl := k.2.2.1
  have hxn := h.2.1
  have hyn := k.2.1
  unfold maxLen at hxl hyl
  have HXL := Lib.hid h.1
  have HYL := Lib.hid k.1
  clear h k hsub
  go_enter Tryz.func36, Tryz.ntmps36
  go_wp2_with fail
  go_loopw [5, 6, 7] (fun i s6 s7 wr => ∃ j : Nat, j ≤ n ∧ i = .int .i64 j ∧ Hid (Below w.heap.size w wr)) (fun i _ _ _ => n - (intOf i).toNat)
  case atStart => exact ⟨0, Nat.zero_le _, rfl, Lib.hid (Below.refl _ _)⟩
  case round =>
    obtain ⟨j, hj, rfl, HB⟩ := hrel
    by_cases hlt : j < n
    · have d1 : decide ((j : Int) < (n : Int)) = true := decide_eq_true (by omega)
      have d0 : (0 : Int) ≤ (j : Int) := by omega
      have d3 : (j : Int) < (n : Int) := by omega
      obtain ⟨b, off, rfl, hbl, hs⟩ := HX.out.2.2.2 (by omega)
      have HXC := Lib.hid (cell_later HB.out (hs j (by rw [HXL.out]; exact hlt)))
      have HM := Lib.hid (HS.out _ (part_mem xs j (by rw [HXL.out]; exact hlt)))
      clear hs
      obtain ⟨p, hp⟩ : ∃ x, partAt xs j = x := ⟨_, rfl⟩
      rw [hp] at HXC HM
      clear hp
      go_wp2_with fail
      go_loopw [6, 7] (fun f i wq => ∃ (q : Nat) (fd : Bool), q ≤ m ∧ i = .int .i64 q ∧ f = .bool fd ∧ Hid (fd = true ↔ p ∈ ys.take q) ∧ Hid (Below w.heap.size w wq ∧ wq.cell? ⟨b, off + j, none⟩ = some (.string p))) (fun _ i _ => m - (intOf i).toNat)
      case atStart => exact ⟨0, false, Nat.zero_le _, rfl, rfl, Lib.hid (by simp), Lib.hid ⟨HB.out, HXC.out⟩⟩
      case round =>
        obtain ⟨q, fd, hq, rfl, rfl, HF, HQ⟩ := hrel
        by_cases hqt : q < m
        · have g1 : decide ((q : Int) < (m : Int)) = true := decide_eq_true (by omega)
          have g0 : (0 : Int) ≤ (q : Int) := by omega
          have g3 : (q : Int) < (m : Int) := by omega
          obtain ⟨c, off2, rfl, hcl, hs⟩ := HY.out.2.2.2 (by omega)
          have hyc := cell_later HQ.out.1 (hs q (by rw [HYL.out]; exact hqt))
          have hxc := HQ.out.2
          clear hs
          have HT := Lib.hid (take_snoc ys q (by rw [HYL.out]; exact hqt))
          obtain ⟨y, hy⟩ : ∃ x, partAt ys q = x := ⟨_, rfl⟩
          rw [hy] at hyc HT
          clear hy
          cases fd
          · by_cases hpy : p = y
            · subst hpy
              have e1 : (p.toList == p.toList) = true := by simp
              have HF2 := Lib.hid (show p ∈ ys.take (q + 1) by rw [HT.out]; simp)
              go_wp2_with fail
              go_quiet (fail)
              go_wp2_with fail
              go_roundw
              case rel => exact ⟨q + 1, true, by omega, by go_num, rfl, Lib.hid ⟨fun _ => HF2.out, fun _ => rfl⟩, Lib.hid ⟨HQ.out.1.trans ((below_drwN _ _).mono HQ.out.1.size), hxc⟩⟩
              case measure => simp [intOf]; omega
            · have e1 := beq_bytes hpy
              have HF2 := Lib.hid (show (false = true ↔ p ∈ ys.take (q + 1)) by rw [HT.out, List.mem_append, ← HF.out]; simpa using hpy)
              go_wp2_with fail
              go_quiet (fail)
              go_wp2_with fail
              go_roundw
              case rel => exact ⟨q + 1, false, by omega, by go_num, rfl, HF2, Lib.hid ⟨HQ.out.1.trans ((below_drwN _ _).mono HQ.out.1.size), hxc⟩⟩
              case measure => simp [intOf]; omega
          · have HF2 := Lib.hid (show p ∈ ys.take (q + 1) by rw [HT.out, List.mem_append]; exact .inl (HF.out.1 rfl))
            go_wp2_with fail
            go_quiet (fail)
            go_wp2_with fail
            go_roundw
            case rel => exact ⟨q + 1, true, by omega, by go_num, rfl, Lib.hid ⟨fun _ => HF2.out, fun _ => rfl⟩, Lib.hid ⟨HQ.out.1.trans ((below_drwN _ _).mono HQ.out.1.size), hxc⟩⟩
            case measure => simp [intOf]; omega
        · obtain rfl : m = q := by omega
          have g1 : decide ((m : Int) < (m : Int)) = false := decide_eq_false (by omega)
          obtain rfl : fd = true := by
            rw [HF.out, List.take_of_length_le (by rw [HYL.out]; exact Nat.le_refl _)]; exact HM.out
          go_wp2_with fail
          go_roundw
          case rel => exact ⟨j + 1, by omega, by go_num, Lib.hid HQ.out.1⟩
          case measure => simp [intOf]; omega
    · obtain rfl : n = j := by omega
      have d1 : decide ((n : Int) < (n : Int)) = false := decide_eq_false (by omega)
      go_wp2_with fail
      go_ret
      exact ⟨rfl, HB.out⟩
end Go.Proofs.YtclfjdnemafmeaaGreatDoor
end

section
/-
  Contract of the laws' guard light. No condition.
-/
set_option maxRecDepth 100000
namespace Go.Proofs.YtclfjdnemafmeaaGreatDoor
open Go.RowKit Go.PlainAid
/-- an attribute of few values -/
structure AtS (a : At) : Prop where
  nm : a.1.size ≤ 300
  len : a.2.length ≤ 20
  each : ∀ v ∈ a.2, v.size ≤ 300
/-- what light asks -/
structure LightE (l : List At) : Prop where
  len : l.length ≤ 40
  each : ∀ a ∈ l, AtS a
theorem LightE.small {l : List At} (h : LightE l) : SmallA l := fun a ha => by
  have k := h.each a ha
  have k1 := k.nm
  exact ⟨by omega, fun v hv => by have := k.each v hv; omega⟩
theorem sumV_le : ∀ {l : List At}, (∀ a ∈ l, a.2.length ≤ 20) → sumV l ≤ l.length * 20
  | [], _ => by simp [sumV]
  | a :: l, h => by
    have h1 := h a (by simp)
    have h2 := sumV_le (l := l) (fun x hx => h x (by simp [hx]))
    rw [sumV_cons, List.length_cons]; omega
theorem LightE.few {l : List At} (h : LightE l) : Few l :=
  ⟨h.small, by have h1 := sumV_le (fun a ha => (h.each a ha).len); have h2 := h.len; omega, by have := h.len; omega⟩
/-- the box of an entry -/
structure EB (w W : World) (en : ByteArray) (ao : Option Addr) (n cap : Nat) : Prop where
  box : W.heap[w.heap.size]? = some (.cells #[.string en, .slice ao n cap] 48)
  low : Below w.heap.size w W
  big : w.heap.size < W.heap.size
theorem EB.step {w W V : World} {en : ByteArray} {ao : Option Addr} {n cap : Nat} (h : EB w W en ao n cap) (hb : Below W.heap.size W V) : EB w V en ao n cap :=
  ⟨(hb.block _ h.big).trans h.box, h.low.trans (hb.mono h.low.size), Nat.lt_of_lt_of_le h.big hb.size⟩
theorem EB.cells {w W : World} {en : ByteArray} {ao : Option Addr} {n cap : Nat} (h : EB w W en ao n cap) : W.cell? ⟨w.heap.size, 0, none⟩ = some (.string en) ∧ W.cell? ⟨w.heap.size, 1, none⟩ = some (.slice ao n cap) :=
  ⟨heap_cell h.box rfl, heap_cell h.box rfl⟩
theorem eb_new (w : World) (en : ByteArray) (ao : Option Addr) (n cap : Nat) : EB w (w.alloc (.cells #[.string en, .slice ao n cap] 48)) en ao n cap :=
  ⟨heap_alloc_new w _, (Below.refl _ _).alloc (Nat.le_refl _) _, by simp⟩
set_option maxHeartbeats 4000000 in
theorem light_s (en : ByteArray) (ao : Option Addr) (n cap : Nat) (l : List At) (w : World) (h : AttrsAt w ao n cap l) (rA : RA l) :
    Calls Tryz.prog 28 #[.agg #[.string en, .slice ao n cap]] w fun e w' => GuardB (LightE l) w e w' := by
  have HA := Lib.hid h
  have HR := Lib.hid rA
  have hl := h.1
  have hcx := h.2.2.1
  have hcn := h.2.1
  unfold maxLen at hcx
  have HLen := Lib.hid hl
  have HK0 := Lib.hid (eb_new w en ao n cap)
  clear h rA hl
  go_enter Tryz.func28, Tryz.ntmps28
  go_wp2_with fail
  generalize w.alloc (.cells #[.string en, .slice ao n cap] 48) = W1 at HK0 ⊢
  go_loopw [3, 4, 5] (fun i s4 s5 wr => ∃ j : Nat, j ≤ n ∧ i = .int .i64 j ∧ Hid (∀ a ∈ l.take j, AtS a) ∧ Hid (EB w wr en ao n cap)) (fun i _ _ _ => n - (intOf i).toNat)
  case atStart => exact ⟨0, Nat.zero_le _, rfl, Lib.hid (fun v hv => by rw [List.take_zero] at hv; exact absurd hv List.not_mem_nil), HK0⟩
  case round =>
    obtain ⟨j, hj, rfl, HV, HKj⟩ := hrel
    obtain ⟨c0, c1⟩ := HKj.out.cells
    by_cases hlt : j < n
    · have d1 : decide ((j : Int) < (n : Int)) = true := decide_eq_true (by omega)
      have d0 : (0 : Int) ≤ (j : Int) := by omega
      have d3 : (j : Int) < (n : Int) := by omega
      obtain ⟨b, off, rfl, hbl, hs⟩ := (HA.out.below HKj.out.low).2.2.2 (by omega)
      obtain ⟨y0, vo, vn, vc, y1, hS⟩ := hs j hlt
      clear hs
      obtain ⟨hn0, hn1⟩ := HR.out _ (at_mem l j (by rw [HLen.out]; exact hlt))
      have HTk := Lib.hid (at_take l j (by rw [HLen.out]; exact hlt))
      obtain ⟨A, hA⟩ : ∃ x, atD l j = x := ⟨_, rfl⟩
      rw [hA] at y0 hS hn0 hn1 HTk
      clear hA
      obtain ⟨an, vs⟩ := A
      simp only at y0 hS hn0 hn1
      have HB1 := Lib.hid ((Below.refl wr.heap.size wr).alloc (Nat.le_refl _) (.cells #[.string an, .slice vo vn vc] 64))
      have HS1 := Lib.hid (hS.below HB1.out)
      have hvl := hS.1
      have HVl := Lib.hid hvl
      have hvx := hS.2.2.1
      unfold maxLen at hvx
      have hvc := hS.2.1
      have HRS := Lib.hid hn1
      have HKn := Lib.hid (HKj.out.step HB1.out)
      clear hS hn1 hvl
      by_cases h1 : 300 < an.size
      · have d4 : decide ((300 : Int) < (an.size : Int)) = true := decide_eq_true (by omega)
        go_wp2_with fail
        go_ret
        exact guardB_no HKn.out.low
      · have d4 : decide ((300 : Int) < (an.size : Int)) = false := decide_eq_false (by omega)
        by_cases h2 : 20 < vn
        · have d5 : decide ((20 : Int) < (vn : Int)) = true := decide_eq_true (by omega)
          go_wp2_with fail
          go_ret
          exact guardB_no HKn.out.low
        · have d5 : decide ((20 : Int) < (vn : Int)) = false := decide_eq_false (by omega)
          go_wp2_with fail
          go_loop [5] (fun k => ∃ q : Nat, q ≤ vn ∧ k = .int .i64 q ∧ Hid (∀ v ∈ vs.take q, v.size ≤ 300)) (fun k => vn - (intOf k).toNat)
          case atStart => exact ⟨0, Nat.zero_le _, rfl, Lib.hid (fun v hv => by rw [List.take_zero] at hv; cases hv)⟩
          case round =>
            obtain ⟨q, hq, rfl, HQ⟩ := hrel
            by_cases hqt : q < vn
            · have g1 : decide ((q : Int) < (vn : Int)) = true := decide_eq_true (by omega)
              have g0 : (0 : Int) ≤ (q : Int) := by omega
              have g3 : (q : Int) < (vn : Int) := by omega
              obtain ⟨vb, voff, rfl, hvb, hvs⟩ := HS1.out.2.2.2 (by omega)
              have hvcell := hvs q (by rw [HVl.out]; exact hqt)
              clear hvs
              have hvz := HRS.out _ (part_mem vs q (by rw [HVl.out]; exact hqt))
              have HT2 := Lib.hid (take_snoc vs q (by rw [HVl.out]; exact hqt))
              obtain ⟨x, hx⟩ : ∃ y, partAt vs q = y := ⟨_, rfl⟩
              rw [hx] at hvcell hvz HT2
              clear hx
              by_cases h3 : 300 < x.size
              · have g4 : decide ((300 : Int) < (x.size : Int)) = true := decide_eq_true (by omega)
                go_wp2_with fail
                go_ret
                exact guardB_no HKn.out.low
              · have g4 : decide ((300 : Int) < (x.size : Int)) = false := decide_eq_false (by omega)
                have HQ2 := Lib.hid (show ∀ v ∈ vs.take (q + 1), v.size ≤ 300 from fun v hv => by
                  rw [HT2.out] at hv
                  rcases List.mem_append.1 hv with k | k
                  · exact HQ.out v k
                  · rw [List.mem_singleton.1 k]; exact Nat.not_lt.1 h3)
                go_wp2_with fail
                go_round
                case rel => exact ⟨q + 1, by omega, by go_num, HQ2⟩
                case measure => simp [intOf]; omega
            · obtain rfl : vn = q := by omega
              have g1 : decide ((vn : Int) < (vn : Int)) = false := decide_eq_false (by omega)
              have HAl := Lib.hid (show ∀ v ∈ vs, v.size ≤ 300 by have := HQ.out; rwa [List.take_of_length_le (by rw [HVl.out]; exact Nat.le_refl _)] at this)
              have HV2 := Lib.hid (show ∀ a ∈ l.take (j + 1), AtS a from fun a ha => by
                rw [HTk.out] at ha
                rcases List.mem_append.1 ha with k | k
                · exact HV.out a k
                · rw [List.mem_singleton.1 k]; exact ⟨Nat.not_lt.1 h1, by show vs.length ≤ 20; rw [HVl.out]; omega, HAl.out⟩)
              go_wp2_with fail
              go_roundw
              case rel => exact ⟨j + 1, by omega, by go_num, HV2, HKn⟩
              case measure => simp [intOf]; omega
    · obtain rfl : n = j := by omega
      have d1 : decide ((n : Int) < (n : Int)) = false := decide_eq_false (by omega)
      have HVT := Lib.hid (show ∀ a ∈ l, AtS a by have := HV.out; rwa [List.take_of_length_le (by rw [HLen.out]; exact Nat.le_refl _)] at this)
      by_cases h5 : n ≤ 40
      · have d4 : decide ((n : Int) ≤ (40 : Int)) = true := decide_eq_true (by omega)
        have HG := Lib.hid (show LightE l from ⟨by rw [HLen.out]; exact h5, HVT.out⟩)
        go_wp2_with fail
        go_ret
        exact guardB_yes HG.out HKj.out.low
      · have d4 : decide ((n : Int) ≤ (40 : Int)) = false := decide_eq_false (by omega)
        go_wp2_with fail
        go_ret
        exact guardB_no HKj.out.low
end Go.Proofs.YtclfjdnemafmeaaGreatDoor
end

section
/-
  Contract of the law's raised: the attributes with their names in upper case. Condition: at most 1000 attributes, names of at most 1000000 bytes.
-/
set_option maxRecDepth 100000
namespace Go.Proofs.YtclfjdnemafmeaaGreatDoor
open Go.RowKit Go.PlainAid
def upB (c : UInt8) : UInt8 := if 97 ≤ c.toNat ∧ c.toNat ≤ 122 then c - 32 else c
def upL (l : List UInt8) : List UInt8 := l.map upB
def upS (s : ByteArray) : ByteArray := ⟨(upL s.data.toList).toArray⟩
/-- an attribute with its name in upper case -/
def upA (a : At) : At := (upS a.1, a.2)
theorem upB_hit (c : UInt8) (h1 : 97 ≤ (c.toNat : Int)) (h2 : (c.toNat : Int) ≤ 122) : ((upB c).toNat : Int) = (c.toNat : Int) - 97 + 65 := by
  unfold upB
  rw [if_pos ⟨by omega, by omega⟩, UInt8.toNat_sub]
  have : (32 : UInt8).toNat = 32 := rfl
  have := c.toNat_lt
  omega
theorem upB_miss (c : UInt8) (h : ¬ (97 ≤ (c.toNat : Int) ∧ (c.toNat : Int) ≤ 122)) : upB c = c := by
  unfold upB
  rw [if_neg (by omega)]
theorem up_hit (s : ByteArray) (k : Nat) (h : k < s.size) (h1 : 97 ≤ bt s k) (h2 : bt s k ≤ 122) :
    bcells (upL (s.data.toList.take (k + 1))) = bcells (upL (s.data.toList.take k)) ++ [Value.int .u8 (bt s k - 97 + 65)] := by
  rw [bt_at s k h] at *
  rw [take_succ s k h]
  simp only [upL, bcells, List.map_append, List.map_cons, List.map_nil, upB_hit _ h1 h2]
theorem up_miss (s : ByteArray) (k : Nat) (h : k < s.size) (h1 : ¬ (97 ≤ bt s k ∧ bt s k ≤ 122)) :
    bcells (upL (s.data.toList.take (k + 1))) = bcells (upL (s.data.toList.take k)) ++ [Value.int .u8 (bt s k)] := by
  rw [bt_at s k h] at *
  rw [take_succ s k h]
  simp only [upL, bcells, List.map_append, List.map_cons, List.map_nil, upB_miss _ h1]
theorem upL_length (l : List UInt8) : (upL l).length = l.length := by simp [upL]
theorem step_push_attr {ops : Array Oper} {o : Oper} {a : Act} {K : Act → World → Prop} {Q : Exit → Act → World → Prop} {E : Prop} (wr : World) {base : Nat} {v : Value} {n : Nat} {xs : List Value} (hown : wr.ownsRow base 64 2 v n xs) (s x : Operand)
    (p : ByteArray) (hd : Value) (hone : hd.oneCell' = true) (hgd : o.guard = none)
    (ho : o.op = .call { callee := .builtin .append, args := #[s, x], argTypes := #[46, 46] })
    (hs : a.eval s = v) (hx : a.eval x = .slice (some ⟨wr.heap.size, 0, none⟩) 1 1) (hn : n + 1 ≤ 1000000000) (hbase : base ≤ wr.heap.size)
    (h : ∀ v' w', w'.ownsRow base 64 2 v' (n + 1) (xs ++ [.string p, hd]) → Below base wr w' → K (a.put o.dst v') w') :
    if Region.wanted o (yielded ops a.tmps) = true then Oper.wp Tryz.prog o a (wr.alloc (.cells #[.string p, hd] 64)) K Q else E := by
  obtain ⟨i0, hi, hz0, hz1, hz2⟩ := info_parts info_attr
  refine step_append_own_at hgd s x 46 ho base 64 i0 (.agg #[.string ⟨#[]⟩, .slice none 0 0]) 2 40 Tryz.underlying46 hi hz0 hz1 hz2 rfl (by decide) v n xs hs (hown.alloc _) ⟨wr.heap.size, 0, none⟩ 1 1 [.string p, hd] hx rfl
    (fun j u hj => ?_) (by intro u hu; simp at hu; rcases hu with rfl | rfl; rfl; exact hone) (by unfold maxLen; omega) (by omega) (by simp; omega) ?_
  · have hb := heap_alloc_new wr (.cells #[.string p, hd] 64)
    match j, hj with
    | 0, hj => cases hj; exact heap_cell hb rfl
    | 1, hj => cases hj; exact heap_cell hb rfl
    | k + 2, hj => simp at hj
  · intro v' w' h1 h2 _
    exact h v' w' h1 (((Below.refl base wr).alloc hbase _).grown h2 (by simp; omega) (fun k hk => (hown.lt k hk).1))
/-- raised under way: the parameter's box, the result's, the one under way -/
structure RsB (w W : World) (en : ByteArray) (eo : Option Addr) (n cap : Nat) (ro : Option Addr) (j rc : Nat) (T : List Tr) : Prop where
  k0 : Kb W w.heap.size (.cells #[.string en, .slice eo n cap] 48)
  k1 : Kb W (w.heap.size + 1) (.cells #[.string ⟨#[]⟩, .slice none 0 0] 48)
  k2 : Kb W (w.heap.size + 1 + 1) (.cells #[.string en, .slice ro j rc] 48)
  own : W.ownsRow (w.heap.size + 1 + 1 + 1) 64 2 (.slice ro j rc) j (tcells T)
  low : Below w.heap.size w W
theorem RsB.big {w W : World} {en : ByteArray} {eo : Option Addr} {n cap : Nat} {ro : Option Addr} {j rc : Nat} {T : List Tr} (h : RsB w W en eo n cap ro j rc T) : w.heap.size + 1 + 1 + 1 ≤ W.heap.size := h.k2.big
theorem RsB.step {w W V : World} {en : ByteArray} {eo : Option Addr} {n cap : Nat} {ro : Option Addr} {j rc : Nat} {T : List Tr} (h : RsB w W en eo n cap ro j rc T) (hb : Below W.heap.size W V) : RsB w V en eo n cap ro j rc T :=
  ⟨h.k0.step hb, h.k1.step hb, h.k2.step hb, own_below h.own hb, h.low.trans (hb.mono h.low.size)⟩
theorem RsB.cells {w W : World} {en : ByteArray} {eo : Option Addr} {n cap : Nat} {ro : Option Addr} {j rc : Nat} {T : List Tr} (h : RsB w W en eo n cap ro j rc T) :
    W.cell? ⟨w.heap.size, 0, none⟩ = some (.string en) ∧ W.cell? ⟨w.heap.size, 1, none⟩ = some (.slice eo n cap) ∧ W.cell? ⟨w.heap.size + 1 + 1, 0, none⟩ = some (.string en) ∧ W.cell? ⟨w.heap.size + 1 + 1, 1, none⟩ = some (.slice ro j rc) :=
  ⟨h.k0.cell rfl, h.k0.cell rfl, h.k2.cell rfl, h.k2.cell rfl⟩
theorem rsB_new (w : World) (en : ByteArray) (eo : Option Addr) (n cap : Nat) :
    RsB w (((w.alloc (.cells #[.string en, .slice eo n cap] 48)).alloc (.cells #[.string ⟨#[]⟩, .slice none 0 0] 48)).alloc (.cells #[.string en, .slice none 0 0] 48)) en eo n cap none 0 0 [] := by
  have s1 : ∀ (W : World) (o : Obj), (W.alloc o).heap.size = W.heap.size + 1 := fun W o => by simp
  refine ⟨((kbl_new w _).step (below_al _ _)).step (below_al _ _), ?_, ?_, World.ownsRow_nil _ _ _ _, ((below_al w _).trans ((below_al _ _).mono (by simp))).trans ((below_al _ _).mono (by simp; omega))⟩
  · exact (kb_at (W := w.alloc _) _ (s1 w _)).step (below_al _ _)
  · exact kb_at _ (by rw [s1, s1])
/-- an attribute more -/
theorem RsB.push {w W V : World} {en : ByteArray} {eo : Option Addr} {n cap : Nat} {ro : Option Addr} {j rc : Nat} {T : List Tr} (h : RsB w W en eo n cap ro j rc T) (t : Tr) {ro' : Option Addr} {rc' : Nat}
    (g : V.ownsRow (w.heap.size + 1 + 1 + 1) 64 2 (.slice ro' (j + 1) rc') (j + 1) (tcells T ++ [.string t.1, t.2.1])) (hb : Below (w.heap.size + 1 + 1 + 1) W V) :
    RsB w (V.setCell ⟨w.heap.size + 1 + 1, 1, none⟩ (.slice ro' (j + 1) rc')) en eo n cap ro' (j + 1) rc' (T ++ [t]) := by
  have e : ∀ {b o}, b < w.heap.size + 1 + 1 + 1 → Kb W b o → Kb V b o := fun hlt hk => (hb.block _ hlt).trans hk
  refine ⟨(e (by omega) h.k0).set _ _ (by simp; omega), (e (by omega) h.k1).set _ _ (by simp), ?_, ?_, ?_⟩
  · have := e (by omega) h.k2
    exact Lib.heap_setCell_same this _
  · rw [tcells_append]
    exact ownsRow_setCell_below g (a := ⟨w.heap.size + 1 + 1, 1, none⟩) (Nat.lt_succ_self _) _
  · exact (h.low.trans (hb.mono (by omega))).setCell (p := ⟨w.heap.size + 1 + 1, 1, none⟩) (by show w.heap.size ≤ w.heap.size + 1 + 1; omega) _
theorem back_up {w : World} {base : Nat} {bo : Option Addr} {bc : Nat} {p : ByteArray} (h : w.ownsRow base 5 1 (.slice bo p.size bc) p.size (bcells (upL (p.data.toList.take p.size)))) :
    (convert 95 9 (.slice bo p.size bc)).run Tryz.prog w.drew = .ok (.string (upS p)) w.drew := by
  rw [List.take_of_length_le (show p.data.toList.length ≤ p.size by rw [← Lib.size_eq]; exact Nat.le_refl _)] at h
  have h1 : w.drew.ownsRow base 5 1 (.slice bo p.size bc) p.size (bcells (upL p.data.toList)) := h
  refine back (base := base) (l := upL p.data.toList) ?_
  rw [upL_length, ← Lib.size_eq]; exact h1
def upT (t : Tr) : Tr := (upS t.1, t.2.1, t.2.2)
theorem tats_up (T : List Tr) : tats (T.map upT) = (tats T).map upA := by unfold tats; rw [List.map_map, List.map_map]; rfl
theorem tok_up {w : World} {T : List Tr} (h : TOk w T) : TOk w (T.map upT) := fun t ht => by
  obtain ⟨u, hu, rfl⟩ := List.mem_map.1 ht
  exact h u hu
set_option maxHeartbeats 8000000 in
theorem raised_s (en : ByteArray) (eo : Option Addr) (n cap : Nat) (l : List At) (w : World) (h : AttrsAt w eo n cap l) (hl : LightE l) :
    Calls Tryz.prog 39 #[.agg #[.string en, .slice eo n cap]] w fun e w' => ∃ ro rc, e = .returned (.agg #[.string en, .slice ro n rc]) ∧ AttrsAt w' ro n rc (l.map upA) ∧ Below w.heap.size w w' := by
  obtain ⟨T0, hT0, hOk, hTs⟩ := ats_ts h
  have HT := Lib.hid hTs
  have HOk := Lib.hid hOk
  have hcx := hTs.2.2.1
  have hcn := hTs.2.1
  unfold maxLen at hcx
  have HL := Lib.hid hTs.1
  have HT0 := Lib.hid hT0
  have hn40 : n ≤ 40 := by have h1 := h.1; have h2 := hl.len; omega
  have HSz := Lib.hid (show ∀ j, j < n → (trD T0 j).1.size ≤ 300 from fun j hj => (hl.each _ (by rw [← hT0]; exact List.mem_map.2 ⟨_, tr_mem T0 j (by rw [hTs.1]; exact hj), rfl⟩)).nm)
  clear h hl hTs hOk hT0
  have HK0 := Lib.hid (rsB_new w en eo n cap)
  go_enter Tryz.func39, Tryz.ntmps39
  go_wp2_with fail
  generalize (((w.alloc (.cells #[.string en, .slice eo n cap] 48)).alloc (.cells #[.string ⟨#[]⟩, .slice none 0 0] 48)).alloc (.cells #[.string en, .slice none 0 0] 48)) = W1 at HK0 ⊢
  go_loopw [4, 5, 6, 7] (fun i s5 s6 s7 wr => ∃ (j : Nat) (ro : Option Addr) (rc : Nat), j ≤ n ∧ i = .int .i64 j ∧ Hid (RsB w wr en eo n cap ro j rc ((T0.take j).map upT))) (fun i _ _ _ _ => n - (intOf i).toNat)
  case atStart => exact ⟨0, none, 0, Nat.zero_le _, rfl, HK0⟩
  case round =>
    obtain ⟨j, ro, rc, hj, rfl, HKj⟩ := hrel
    obtain ⟨c0, c1, c2, c3⟩ := HKj.out.cells
    by_cases hlt : j < n
    · have d1 : decide ((j : Int) < (n : Int)) = true := decide_eq_true (by omega)
      have d0 : (0 : Int) ≤ (j : Int) := by omega
      have d3 : (j : Int) < (n : Int) := by omega
      obtain ⟨b, off, rfl, hbl, _⟩ := (HT.out.below HKj.out.low).2.2.2 (by omega)
      have hy := ts_at (HT.out.below HKj.out.low) j hlt
      have hsz := HSz.out j hlt
      obtain ⟨vo, vn, vc, hve, hvs⟩ := HOk.out _ (tr_mem T0 j (by rw [HL.out]; exact hlt))
      have HTk := Lib.hid (tr_take T0 j (by rw [HL.out]; exact hlt))
      obtain ⟨T, hT⟩ : ∃ x, trD T0 j = x := ⟨_, rfl⟩
      rw [hT] at hy hsz hve hvs HTk
      clear hT hvs
      obtain ⟨p, hd, vs⟩ := T
      simp only at hy hsz hve
      subst hve
      obtain ⟨y0, y1⟩ := hy
      have HY := Lib.hid (And.intro y0 y1)
      have hgb := get_bt p
      go_wp2_with fail
      clear c0 c1 c2 c3 y0 y1
      go_loopw [5, 6, 7] (fun s5 i s7 wq => ∃ (q : Nat) (bo : Option Addr) (bc : Nat), q ≤ p.size ∧ s5 = .slice bo q bc ∧ i = .int .i64 q ∧ Hid (wq.ownsRow wr.heap.size 5 1 (.slice bo q bc) q (bcells (upL (p.data.toList.take q)))) ∧ Hid (Below wr.heap.size wr wq)) (fun _ i _ _ => p.size - (intOf i).toNat)
      case atStart => exact ⟨0, none, 0, Nat.zero_le _, rfl, rfl, Lib.hid (World.ownsRow_nil _ _ _ _), Lib.hid (Below.refl _ _)⟩
      case round =>
        obtain ⟨q, bo, bc, hq, rfl, rfl, HO, HB⟩ := hrel
        have HKq := Lib.hid (HKj.out.step HB.out)
        obtain ⟨c0, c1, c2, c3⟩ := HKq.out.cells
        have y0 := cell_later HB.out HY.out.1
        have y1 := cell_later HB.out HY.out.2
        by_cases hqt : q < p.size
        · have g1 : decide ((q : Int) < (p.size : Int)) = true := decide_eq_true (by omega)
          have h0 := bt_nonneg p q
          have h255 := bt_le p q
          have hown := HO.out
          by_cases hA : 97 ≤ bt p q ∧ bt p q ≤ 122
          · obtain ⟨hA1, hA2⟩ := hA
            have HS := Lib.hid (up_hit p q hqt hA1 hA2)
            go_wp2_with (at_builtin; go_must (refine push_byte wr hown (.tmp 46) (.tmp 48) _ ?_ ?_ ?_ ?_ ?_ ?_ ?_; exact rfl; exact rfl; exact rfl; exact rfl; omega; exact HB.out.size; intro v' w1 hown1 hb1; obtain ⟨ao3, cap3, rfl⟩ := row_slice hown1))
            go_roundw
            case rel => exact ⟨q + 1, ao3, cap3, by omega, rfl, by go_num, Lib.hid (by rw [HS.out]; exact hown1), Lib.hid (HB.out.trans hb1)⟩
            case measure => simp [intOf]; omega
          · have HS := Lib.hid (up_miss p q hqt hA)
            have hA' : bt p q < 97 ∨ 122 < bt p q := by omega
            clear hA
            rcases hA' with hA | hA
            all_goals
              go_wp2_with (at_builtin; go_must (refine push_byte wr hown (.tmp 46) (.tmp 48) _ ?_ ?_ ?_ ?_ ?_ ?_ ?_; exact rfl; exact rfl; exact rfl; exact rfl; omega; exact HB.out.size; intro v' w1 hown1 hb1; obtain ⟨ao3, cap3, rfl⟩ := row_slice hown1))
              go_roundw
              case rel => exact ⟨q + 1, ao3, cap3, by omega, rfl, by go_num, Lib.hid (by rw [HS.out]; exact hown1), Lib.hid (HB.out.trans hb1)⟩
              case measure => simp [intOf]; omega
        · obtain rfl : p.size = q := by omega
          have g1 : decide ((p.size : Int) < (p.size : Int)) = false := decide_eq_false (by omega)
          have HZ := Lib.hid (show p.data.toList.take p.size = p.data.toList by rw [List.take_of_length_le]; simp)
          have hbk := back_up HO.out
          go_wp2_with fail
          have hq2 := HKq.out.k2.big
          go_region_law (refine step_push_attr wr.drew (base := w.heap.size + 1 + 1 + 1) (v := .slice ro j rc) (n := j) (xs := tcells ((T0.take j).map upT)) (show World.ownsRow _ _ _ _ _ _ _ from HKq.out.own) _ _ (upS p) (.slice vo vn vc) rfl rfl rfl rfl (by simp [Act.eval, Act.put]) (by omega) (by simp; exact HKq.out.big) ?_; intro v3 w3 g1 g2; obtain ⟨ao3, cap3, rfl⟩ := row_slice g1; have HO3 := Lib.hid g1; have HB3 := Lib.hid g2; have f3 := heap_frozen (i := 1) ((HB3.out.block _ (Nat.lt_succ_self _)).trans HKq.out.k2); have c3' := heap_cell (i := 1) ((HB3.out.block _ (Nat.lt_succ_self _)).trans HKq.out.k2) rfl; clear g1 g2)
          all_goals
            have HPu := Lib.hid (HKq.out.push (upT (p, .slice vo vn vc, vs)) HO3.out (show Below _ wr w3 from ⟨HB3.out.os, HB3.out.tape, HB3.out.output, HB3.out.size, HB3.out.block⟩))
            have HPv := Lib.hid (show RsB w _ en _ n cap ao3 (j + 1) cap3 ((T0.take (j + 1)).map upT) by
              rw [HTk.out, List.map_append, List.map_cons, List.map_nil]; exact HPu.out)
            clear HPu HB3 HO3 f3 c3'
            go_wp2_with fail
            go_roundw
            case rel => exact ⟨j + 1, ao3, cap3, by omega, by go_num, HPv⟩
            case measure => simp [intOf]; omega
    · obtain rfl : n = j := by omega
      have d1 : decide ((n : Int) < (n : Int)) = false := decide_eq_false (by omega)
      have HK1 := HKj.out.k1
      have r0 : wr.cell? ⟨w.heap.size + 1, 0, none⟩ = some (.string ⟨#[]⟩) := HK1.cell (i := 0) rfl
      have r1 : wr.cell? ⟨w.heap.size + 1, 1, none⟩ = some (.slice none 0 0) := HK1.cell (i := 1) rfl
      have f0 : wr.frozen? ⟨w.heap.size + 1, 0, none⟩ = false := heap_frozen HK1
      have f1 : wr.frozen? ⟨w.heap.size + 1, 1, none⟩ = false := heap_frozen HK1
      clear HK1
      go_wp2_with fail
      refine bodyPost_ret (v := .agg #[.string en, .slice ro n rc]) (by simp only [results, Tryz.results39]; go_simp) rfl ?_
      have hown := ownsRow_setCell_below (ownsRow_setCell_below HKj.out.own (a := ⟨w.heap.size + 1, 0, none⟩) (by show w.heap.size + 1 < _; omega) (.string en)) (a := ⟨w.heap.size + 1, 1, none⟩) (by show w.heap.size + 1 < _; omega) (.slice ro n rc)
      have hlow := (HKj.out.low.setCell (p := ⟨w.heap.size + 1, 0, none⟩) (by show w.heap.size ≤ w.heap.size + 1; omega) (.string en)).setCell (p := ⟨w.heap.size + 1, 1, none⟩) (by show w.heap.size ≤ w.heap.size + 1; omega) (.slice ro n rc)
      obtain ⟨_, ao, ac, hv, hts, _⟩ := ts_owns hown
      rw [List.take_of_length_le (by rw [HL.out]; exact Nat.le_refl _)] at hts
      injection hv with h1 h2 h3
      subst h1
      subst h3
      have hat := ts_ats hts ((tok_up HOk.out).below hlow)
      rw [tats_up, HT0.out] at hat
      exact ⟨_, _, rfl, hat, hlow⟩
end Go.Proofs.YtclfjdnemafmeaaGreatDoor
end

section
/-
  Pure facts of P7.7: a normal form is its own normal form, and the comparison of values is an order of their normal forms. No condition.
-/
set_option maxRecDepth 100000
namespace Go.Proofs.YtclfjdnemafmeaaGreatDoor
open Go.RowKit Go.PlainAid
theorem digs_S {l : List UInt8} (h : digsB l = true) : digS l = true := by
  obtain ⟨h1, h2⟩ := digs_parts h
  cases l with
  | nil => exact absurd rfl h1
  | cons c r => unfold digS; rw [h2]; rfl
theorem atoi_range64 {l : List UInt8} {v : Int} (h : Lib.atoiAll l = .ok v) : -9223372036854775808 ≤ v ∧ v ≤ 9223372036854775807 := Lib.atoiAll_bounds h
theorem numS_range {s : ByteArray} {n : Int} (h : numS s = some n) : -9223372036854775808 ≤ n ∧ n ≤ 9223372036854775807 := by
  unfold numS at h
  split at h
  · cases ha : Lib.atoiAll s.data.toList with
    | ok v => rw [ha] at h; obtain rfl := Option.some.inj h; exact atoi_range64 ha
    | _ => rw [ha] at h; simp at h
  · cases h
end Go.Proofs.YtclfjdnemafmeaaGreatDoor
end
