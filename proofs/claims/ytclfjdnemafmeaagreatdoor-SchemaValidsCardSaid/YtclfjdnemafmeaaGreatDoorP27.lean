/-
  Texts of the schema layer and of those beneath it, joined: SchMaR, SchLkL, SchLgt, SchEnt, SchOrd. Conditions stand at each contract.
-/
import Derived.Test.YtclfjdnemafmeaaGreatDoorP02
import Derived.Test.YtclfjdnemafmeaaGreatDoorP10
import Derived.Test.YtclfjdnemafmeaaGreatDoorP20
import Derived.Test.YtclfjdnemafmeaaGreatDoorP23
import Derived.Test.YtclfjdnemafmeaaGreatDoorP24
import Derived.Test.YtclfjdnemafmeaaGreatDoorP25
import Derived.Test.YtclfjdnemafmeaaGreatDoorP26
set_option linter.unusedVariables false
set_option linter.unusedSimpArgs false
set_option linter.unnecessarySimpa false

section
/-
  Contract of the specification's May. Condition: names of at most 1000000000 bytes.
-/
set_option maxRecDepth 100000
namespace Go.Proofs.YtclfjdnemafmeaaGreatDoor
open Go.RowKit Go.PlainAid
theorem step_push_strsG {ops : Array Oper} {o : Oper} {a : Act} {K : Act → World → Prop} {Q : Exit → Act → World → Prop} {E : Prop} (wr : World) {base : Nat} {v : Value} {n : Nat} {xs : List Value} (hown : wr.ownsRow base 9 1 v n xs) (s x : Operand)
    {vo : Option Addr} {vn vc : Nat} {vs : List ByteArray} (hv : StrsAt wr vo vn vc vs) (hgd : o.guard = none)
    (ho : o.op = .call { callee := .builtin .append, args := #[s, x], argTypes := #[36, 36] })
    (hs : a.eval s = v) (hx : a.eval x = .slice vo vn vc) (hn : n + vn ≤ 1000000000) (hbase : base ≤ wr.heap.size)
    (h : ∀ v' w', w'.ownsRow base 9 1 v' (n + vn) (xs ++ scells vs) → wr.grownBy w' v.ownBlock → (v'.ownBlock = v.ownBlock ∨ v'.ownBlock = some wr.heap.size) → K (a.put o.dst v') w') :
    if Region.wanted o (yielded ops a.tmps) = true then Oper.wp Tryz.prog o a wr K Q else E := by
  obtain ⟨i0, hi, hz0, hz1, hz2⟩ := info_parts info_string
  obtain ⟨h1, h2, h3, h4⟩ := hv
  have key : ∀ ad : Addr, vo = some ad → (∀ j u, (scells vs)[j]? = some u → wr.cell? (ad.add j) = some u) → if Region.wanted o (yielded ops a.tmps) = true then Oper.wp Tryz.prog o a wr K Q else E := fun ad e hc =>
    step_append_own_at hgd s x 36 ho base 9 i0 (.string ⟨#[]⟩) 1 16 Tryz.underlying36 hi hz0 hz1 hz2 rfl (by decide) v n xs hs hown ad vn vc (scells vs) (by rw [hx, e]) (by unfold scells; rw [List.length_map]; omega)
      hc (by intro u hu; unfold scells at hu; obtain ⟨y, _, rfl⟩ := List.mem_map.1 hu; rfl) (by unfold maxLen; omega) (by omega) hbase (fun v' w' k1 k2 k3 => h v' w' k1 k2 k3)
  by_cases hp : 0 < vn
  · obtain ⟨b, off, e, hb, hc⟩ := h4 hp
    refine key _ e fun j u hu => ?_
    unfold scells at hu
    rw [List.getElem?_map] at hu
    cases hj : vs[j]? with
    | none => rw [hj] at hu; cases hu
    | some y =>
      rw [hj] at hu
      obtain rfl := (Option.some.inj hu).symm
      have hjl : j < vs.length := (List.getElem?_eq_some_iff.1 hj).1
      have := hc j hjl
      rw [Go.WideShapes.add_plain]
      rw [this]; unfold partAt
      rw [List.getD_eq_getElem?_getD, hj]; rfl
  · have hvn : vn = 0 := by omega
    subst hvn
    have hvs : vs = [] := List.length_eq_zero_iff.1 h1
    subst hvs
    cases vo with
    | some ad => exact key ad rfl (fun j u hu => by simp [scells] at hu)
    | none =>
      have hrun : (Builtin.append_ #[36, 36] o.type #[v, .slice none 0 vc]).run Tryz.prog wr = .ok v wr := by
        rcases hown.2 with ⟨rfl, _⟩ | ⟨g, cap, cur, rfl, _, _, hc, _⟩
        · exact run_append_nothing wr 36 36 o.type 9 i0 Tryz.underlying36 hi none 0 0 (Nat.le_refl _) _ (Src.ofNil wr Tryz.underlying36 vc)
        · exact run_append_nothing wr 36 36 o.type 9 i0 Tryz.underlying36 hi _ _ _ hc _ (Src.ofNil wr Tryz.underlying36 vc)
      have hw : Region.wanted o (yielded ops a.tmps) = true := by simp [Region.wanted, hgd]
      rw [if_pos hw]
      unfold Oper.wp execOp
      simp only [ho, resolve, invoke, builtin, Sem.run_bind, Sem.run_pure, Result.andThen_ok, List.map_toArray, List.map_cons, List.map_nil, hs, hx, hrun]
      exact h v wr (by simpa [scells] using hown) ⟨rfl, rfl, rfl, Nat.le_refl _, fun _ _ _ => rfl⟩ (.inl rfl)
theorem grown_on {w a b : World} {r0 r1 : Option Nat} (h1 : w.grownBy a r0) (h2 : a.grownBy b r1) (h : r1 = r0 ∨ ∃ g, r1 = some g ∧ w.heap.size ≤ g) : w.grownBy b r0 := by
  obtain ⟨o1, t1, u1, s1, b1⟩ := h1
  obtain ⟨o2, t2, u2, s2, b2⟩ := h2
  refine ⟨o2.trans o1, t2.trans t1, u2.trans u1, Nat.le_trans s1 s2, fun k hk hne => (b2 k (Nat.lt_of_lt_of_le hk s1) ?_).trans (b1 k hk hne)⟩
  rcases h with rfl | ⟨g, rfl, hg⟩
  · exact hne
  · intro e; have := Option.some.inj e; omega
theorem FB.grown {w W V : World} {ao : Option Addr} {n cap : Nat} {bo : Option Addr} {m dap : Nat} {r : Option Nat} (h : FB w W ao n cap bo m dap) (hg : W.grownBy V r) (hr : ∀ g, r = some g → w.heap.size + 1 ≤ g) : FB w V ao n cap bo m dap := by
  have hg' := hg
  obtain ⟨o2, t2, u2, s2, b2⟩ := hg
  exact ⟨(b2 _ h.big (fun e => by have := hr _ e.symm; omega)).trans h.box, h.low.grown hg' h.low.size (fun k hk => by have := hr k hk; omega), Nat.lt_of_lt_of_le h.big s2⟩
/-- May under way: the row, what it has left alone -/
structure MayR (w w3 wr : World) (C : List Cl) (ms : List ByteArray) (ks : List Nat) (j : Nat) (s0 v : Value) (N : Nat) : Prop where
  own : wr.ownsRow (w.heap.size + 1) 9 1 v N (scells (ms ++ (ks.take j).flatMap fun q => (clAt C q).may))
  gr : w3.grownBy wr s0.ownBlock
  at_ : v.ownBlock = s0.ownBlock ∨ ∃ g, v.ownBlock = some g ∧ w3.heap.size ≤ g
set_option maxHeartbeats 8000000 in
theorem may7_s (v : Value) (ts : List Ty) (cs : List Cl) (n : ByteArray) (w : World) (h : SchV w v ts cs) (hn : n.size ≤ 1000000000) :
    Calls Tryz.prog 23 #[v, .string n] w fun e w' => ∃ oo oc, e = .returned (.slice oo (mayS (soundC ts cs) n).length oc) ∧ w'.ownsRow w.heap.size 9 1 (.slice oo (mayS (soundC ts cs) n).length oc) (mayS (soundC ts cs) n).length (scells (mayS (soundC ts cs) n)) ∧ Below w.heap.size w w' := by
  have h' := h
  obtain ⟨ao, k, cap, bo, m, dap, rfl, _, hCl, _, hsC⟩ := h'
  have hb0 := (Below.refl w.heap.size w).alloc (Nat.le_refl _) (.cells #[.slice ao k cap, .slice bo m dap] 25)
  have HK0 := Lib.hid (fb_new w ao k cap bo m dap)
  have HC := Lib.hid (must7_s _ ts cs n _ (h.below hb0) hn)
  have HV0 := Lib.hid (h.below hb0)
  have HCl := Lib.hid hCl
  have hml := hCl.1
  have hmx := hCl.2.2.1
  unfold maxLen at hmx
  have hmc := hCl.2.1
  have HML := Lib.hid hml
  obtain ⟨C, hC⟩ : ∃ x, soundC ts cs = x := ⟨_, rfl⟩
  have HCs := Lib.hid (fun q (hq : q < C.length) => show C = cs by rw [← hC] at hq ⊢; exact sound_has hq)
  have HF := Lib.hid (fewC_sound ts cs)
  have HZ := Lib.hid (smC_sound (ts := ts) hsC)
  have HC2 := Lib.hid (fun W hV => lineage7_s (.agg #[.slice ao k cap, .slice bo m dap]) ts cs n W hV hn)
  have HSC := Lib.hid (sound_soundC ts cs)
  have HSL := Lib.hid (soundC_len ts cs)
  rw [hC] at HC HC2 HF HZ HSC HSL ⊢
  clear h hb0 hCl hsC hC hml
  go_enter Tryz.func23, Tryz.ntmps23
  go_wp2_with fail
  refine HC.out.mono ?_
  rintro e w2 ⟨oo, oc, rfl, hown, hb⟩
  have HK2 := Lib.hid (HK0.out.step hb)
  have HV2 := Lib.hid (HV0.out.below hb)
  have hown' : w2.ownsRow (w.heap.size + 1) 9 1 (.slice oo (mustS C n).length oc) (mustS C n).length (scells (mustS C n)) := by simpa using hown
  obtain ⟨ms, hms⟩ : ∃ x, mustS C n = x := ⟨_, rfl⟩
  rw [hms] at hown'
  have HMs := Lib.hid hms
  have hmz : ms.length ≤ 10000 := by
    rw [← hms, mustS_eq]
    refine Nat.le_trans (sortU_len _) ?_
    rw [List.length_map]
    have h1 := lineS_small HSC.out n
    have h2 : ∀ l : List Cl, (∀ c ∈ l, c.must.length ≤ 64) → (l.flatMap fun c => c.must).length ≤ l.length * 64 := by
      intro l
      induction l with
      | nil => intro _; simp
      | cons c l ih =>
        intro h
        have a := h c (by simp)
        have b := ih (fun x hx => h x (by simp [hx]))
        rw [List.flatMap_cons, List.length_append, List.length_cons]; omega
    have h3 := h2 (lineS C n) (fun c hc => (HF.out c (lineS_mem hc)).1)
    have h4 := HSL.out
    omega
  have HOw := Lib.hid hown'
  rw [hms]
  obtain ⟨c0, c1⟩ := HK2.out.cells
  have hw2 : w.heap.size + 1 ≤ w2.heap.size := HK2.out.big
  clear hb hown hown' hms HC HK0 HV0
  go_wp2_with fail
  refine (HC2.out _ HV2.out).mono ?_
  rintro e w1 ⟨io, ic, ks, rfl, hks, hfr, hmap, hlt, hk32, hb⟩
  have HK1 := Lib.hid (HK2.out.step hb)
  have HI := Lib.hid hks
  have HFr := Lib.hid hfr
  have HLt := Lib.hid hlt
  have HE := Lib.hid (show mayS C n = sortU ((ms ++ ks.flatMap fun q => (clAt C q).may).map lowS) by rw [mayS_eq, HMs.out, ← hmap, flat_map])
  have hicx := hks.2.2.1
  unfold maxLen at hicx
  have hicc := hks.2.1
  have M0 : Hid (MayR w w1 w1 C ms ks 0 (.slice oo ms.length oc) (.slice oo ms.length oc) ms.length) := Lib.hid ⟨by rw [List.take_zero, List.flatMap_nil, List.append_nil]; exact own_below HOw.out hb, ⟨rfl, rfl, rfl, Nat.le_refl _, fun _ _ _ => rfl⟩, .inl rfl⟩
  have HRow := Lib.hid (show ∀ g, (Value.slice oo ms.length oc).ownBlock = some g → w.heap.size + 1 ≤ g ∧ g < w2.heap.size from fun g e => HOw.out.lt g e)
  have hw21 := hb.size
  clear hb hks hmap hlt HK2 c0 c1 HOw hfr HC2
  go_wp2_with fail
  go_loopw [5, 7] (fun s5 i wr => ∃ (j : Nat) (ro : Option Addr) (rc N : Nat), N ≤ ms.length + j * 64 ∧ s5 = .slice ro N rc ∧ i = .int .i64 j ∧ j ≤ ks.length ∧ Hid (MayR w w1 wr C ms ks j (.slice oo ms.length oc) (.slice ro N rc) N)) (fun _ i _ => ks.length - (intOf i).toNat)
  case atStart => exact ⟨0, oo, oc, ms.length, by omega, rfl, rfl, Nat.zero_le _, M0⟩
  case round =>
    clear M0
    obtain ⟨j, ro, rc, N, hN, rfl, rfl, hj, HM⟩ := hrel
    have HK := Lib.hid (HK1.out.grown HM.out.gr (fun g e => (HRow.out g e).1))
    have hsz : w1.heap.size ≤ wr.heap.size := HM.out.gr.size
    obtain ⟨c0, c1⟩ := HK.out.cells
    by_cases hlt : j < ks.length
    · have d1 : decide ((j : Int) < (ks.length : Int)) = true := decide_eq_true (by omega)
      have d0 : (0 : Int) ≤ (j : Int) := by omega
      have d3 : (j : Int) < (ks.length : Int) := by omega
      obtain ⟨ib, ioff, rfl, hib, his⟩ := HI.out.2.2.2 (by omega)
      have hic := his j hlt
      have hic : wr.cell? ⟨ib, ioff + j, none⟩ = some (.int .i64 ((ks.getD j 0 : Nat) : Int)) := by
        rw [← hic]
        exact World.cell?_of_block (a := ⟨ib, ioff + j, none⟩) (HM.out.gr.block ib hib (fun e => by have h1 := (HRow.out ib e.symm).2; have h2 := HFr.out ib ioff rfl; omega))
      have hq := HLt.out _ (ks_mem ks j hlt)
      have HT := Lib.hid (ks_take ks j hlt)
      obtain ⟨q, hqq⟩ : ∃ x, ks.getD j 0 = x := ⟨_, rfl⟩
      rw [hqq] at hic hq HT
      have hCc := HCs.out q hq
      have hqm : q < m := by rw [← HML.out, ← hCc]; exact hq
      have q0 : (0 : Int) ≤ (q : Int) := by omega
      have q1 : (q : Int) < (m : Int) := by omega
      obtain ⟨b, off, rfl, hbl, hs⟩ := (HCl.out.below HK.out.low).2.2.2 (by omega)
      obtain ⟨_, _, _, a1, p1, q1, y0, hS1⟩ := hs q hqm
      rw [← hCc] at hS1
      have hml := HF.out _ (cl_mem C q hq)
      obtain ⟨mu, hmu⟩ : ∃ x, (clAt C q).may = x := ⟨_, rfl⟩
      rw [hmu] at hS1
      have HN := Lib.hid hmu
      have HS1 := Lib.hid hS1
      have hp1 := hS1.1
      have hmu64 : p1 ≤ 64 := by rw [← hp1, ← hmu]; exact hml.2
      have hp1x := hS1.2.2.1
      unfold maxLen at hp1x
      have hp1c := hS1.2.1
      clear his hs hqq hCc hmu hS1 hp1 hml
      go_wp2_with fail
      go_region_law (refine step_push_strsG wr.drew (base := w.heap.size + 1) (v := .slice ro N rc) (n := N) (xs := scells (ms ++ (ks.take j).flatMap fun q => (clAt C q).may)) (show World.ownsRow _ _ _ _ _ _ _ from HM.out.own) _ _ (vo := a1) (vn := p1) (vc := q1) (vs := mu) (show StrsAt _ _ _ _ _ from HS1.out) rfl rfl rfl (by simp [Act.eval, Act.put]) (by omega) (by simp; omega) ?_; intro v3 w3 g1 g2 g3; obtain ⟨ao3, cap3, rfl⟩ := row_slice g1; have HO3 := Lib.hid g1; have HB3 := Lib.hid g2; have HAt3 := Lib.hid g3; clear g1 g2 g3)
      all_goals
        have HMn : Hid (MayR w w1 w3 C ms ks (j + 1) (.slice oo ms.length oc) (.slice ao3 (N + p1) cap3) (N + p1)) := Lib.hid ⟨by
          rw [HT.out, List.flatMap_append, ← List.append_assoc, scells_app, List.flatMap_cons, List.flatMap_nil, List.append_nil, HN.out]
          exact HO3.out, grown_on HM.out.gr (show wr.grownBy w3 (Value.slice ro N rc).ownBlock from ⟨HB3.out.os, HB3.out.tape, HB3.out.output, HB3.out.size, HB3.out.block⟩) HM.out.at_, by
          rcases HAt3.out with h | h
          · rcases HM.out.at_ with h2 | ⟨g, h2, h3⟩
            · exact .inl (h.trans h2)
            · exact .inr ⟨g, h.trans h2, h3⟩
          · exact .inr ⟨_, h, hsz⟩⟩
        clear HB3 HO3 HAt3
        go_wp2_with fail
        go_roundw
        case rel => exact ⟨j + 1, ao3, cap3, N + p1, by omega, rfl, by go_num, by omega, HMn⟩
        case measure => simp [intOf]; omega
    · obtain rfl : ks.length = j := by omega
      have d1 : decide ((ks.length : Int) < (ks.length : Int)) = false := decide_eq_false (by omega)
      obtain ⟨L, hL⟩ : ∃ x, (ms ++ ks.flatMap fun q => (clAt C q).may) = x := ⟨_, rfl⟩
      have hLs : ∀ s ∈ L, s.size ≤ 1000000000 := by
        rw [← hL]
        intro s hs
        rcases List.mem_append.1 hs with h | h
        · rw [← HMs.out, mustS_eq, sortU_mem] at h
          obtain ⟨x, hx, rfl⟩ := List.mem_map.1 h
          obtain ⟨c, hc, hx⟩ := List.mem_flatMap.1 hx
          rw [lowS_size]
          exact (HZ.out c (lineS_mem hc)).2.2.1 x hx
        · exact flat_each (f := fun c => c.may) (P := fun s => s.size ≤ 1000000000) (fun c hc s hs => (HZ.out c hc).2.2.2 s hs) HLt.out s h
      have hO := HM.out.own
      rw [List.take_length, hL] at hO
      have hLN : L.length = N := by
        have := hO.1
        unfold scells at this
        rw [List.length_map] at this
        omega
      obtain ⟨ro', rc', e, hst⟩ := strs_own hO hLN
      simp only [Value.slice.injEq] at e
      obtain ⟨rfl, _, rfl⟩ := e
      have HLw := Lib.hid (lower7_s ro N rc L wr hst hLs (by omega))
      rw [← hL, ← HE.out] at HLw
      have hwr := HK.out.low.size
      clear hO hst hL hLs
      go_wp2_with fail
      refine HLw.out.mono ?_
      rintro e w4 ⟨oo', oc', rfl, ho, hb⟩
      have HO4 := Lib.hid (ho.mono hwr)
      have HB4 := Lib.hid (HK.out.low.trans (hb.mono hwr))
      clear ho hb
      go_wp2_with fail
      go_ret
      exact ⟨_, _, rfl, HO4.out, HB4.out⟩
end Go.Proofs.YtclfjdnemafmeaaGreatDoor
end

section
/-
  What the law SchemaLooks shares: lists that are the same, the specification's lists as values, the facts of its drawn region. No condition.
-/
set_option maxRecDepth 100000
namespace Go.Proofs.YtclfjdnemafmeaaGreatDoor
open Go.RowKit Go.PlainAid
theorem lists_same {u v : Value} {l : List ByteArray} (w : World) (h : StrsV w u l) (k : StrsV w v l) : Calls Tryz.prog 17 #[u, v] w fun e w' => e = .returned (.bool true) ∧ Below w.heap.size w w' := by
  obtain ⟨ao, n, cap, rfl, h⟩ := h
  obtain ⟨bo, m, dap, rfl, k⟩ := k
  refine (lists_s ao bo n m cap dap l l w h k).mono fun e w' ⟨he, hb⟩ => ⟨?_, hb⟩
  rw [he, decide_eq_true rfl]
theorem must7_v (v : Value) (ts : List Ty) (cs : List Cl) (n : ByteArray) (w : World) (h : SchV w v ts cs) (hn : n.size ≤ 1000000000) :
    Calls Tryz.prog 21 #[v, .string n] w fun e w' => ∃ u, e = .returned u ∧ StrsV w' u (mustS (soundC ts cs) n) ∧ Below w.heap.size w w' :=
  (must7_s v ts cs n w h hn).mono fun e w' ⟨oo, oc, he, ho, hb⟩ => ⟨_, he, strsV_own ho, hb⟩
theorem may7_v (v : Value) (ts : List Ty) (cs : List Cl) (n : ByteArray) (w : World) (h : SchV w v ts cs) (hn : n.size ≤ 1000000000) :
    Calls Tryz.prog 23 #[v, .string n] w fun e w' => ∃ u, e = .returned u ∧ StrsV w' u (mayS (soundC ts cs) n) ∧ Below w.heap.size w w' :=
  (may7_s v ts cs n w h hn).mono fun e w' ⟨oo, oc, he, ho, hb⟩ => ⟨_, he, strsV_own ho, hb⟩
end Go.Proofs.YtclfjdnemafmeaaGreatDoor
end

section
/-
  Contract of the laws' guard light. No condition.
-/
set_option maxRecDepth 100000
namespace Go.Proofs.YtclfjdnemafmeaaGreatDoor
open Go.RowKit Go.PlainAid
/-- an attribute of few values -/
structure AtS (a : At) : Prop where
  nm : a.1.size ≤ 300
  len : a.2.length ≤ 20
  each : ∀ v ∈ a.2, v.size ≤ 300
/-- what light asks -/
structure LightE (l : List At) : Prop where
  len : l.length ≤ 40
  each : ∀ a ∈ l, AtS a
theorem LightE.small {l : List At} (h : LightE l) : SmallA l := fun a ha => by
  have k := h.each a ha
  have k1 := k.nm
  exact ⟨by omega, fun v hv => by have := k.each v hv; omega⟩
theorem sumV_le : ∀ {l : List At}, (∀ a ∈ l, a.2.length ≤ 20) → sumV l ≤ l.length * 20
  | [], _ => by simp [sumV]
  | a :: l, h => by
    have h1 := h a (by simp)
    have h2 := sumV_le (l := l) (fun x hx => h x (by simp [hx]))
    rw [sumV_cons, List.length_cons]; omega
theorem LightE.few {l : List At} (h : LightE l) : Few l :=
  ⟨h.small, by have h1 := sumV_le (fun a ha => (h.each a ha).len); have h2 := h.len; omega, by have := h.len; omega⟩
/-- the box of an entry -/
structure EB (w W : World) (en : ByteArray) (ao : Option Addr) (n cap : Nat) : Prop where
  box : W.heap[w.heap.size]? = some (.cells #[.string en, .slice ao n cap] 48)
  low : Below w.heap.size w W
  big : w.heap.size < W.heap.size
theorem EB.step {w W V : World} {en : ByteArray} {ao : Option Addr} {n cap : Nat} (h : EB w W en ao n cap) (hb : Below W.heap.size W V) : EB w V en ao n cap :=
  ⟨(hb.block _ h.big).trans h.box, h.low.trans (hb.mono h.low.size), Nat.lt_of_lt_of_le h.big hb.size⟩
theorem EB.cells {w W : World} {en : ByteArray} {ao : Option Addr} {n cap : Nat} (h : EB w W en ao n cap) : W.cell? ⟨w.heap.size, 0, none⟩ = some (.string en) ∧ W.cell? ⟨w.heap.size, 1, none⟩ = some (.slice ao n cap) :=
  ⟨heap_cell h.box rfl, heap_cell h.box rfl⟩
theorem eb_new (w : World) (en : ByteArray) (ao : Option Addr) (n cap : Nat) : EB w (w.alloc (.cells #[.string en, .slice ao n cap] 48)) en ao n cap :=
  ⟨heap_alloc_new w _, (Below.refl _ _).alloc (Nat.le_refl _) _, by simp⟩
set_option maxHeartbeats 4000000 in
theorem light_s (en : ByteArray) (ao : Option Addr) (n cap : Nat) (l : List At) (w : World) (h : AttrsAt w ao n cap l) (rA : RA l) :
    Calls Tryz.prog 28 #[.agg #[.string en, .slice ao n cap]] w fun e w' => GuardB (LightE l) w e w' := by
  have HA := Lib.hid h
  have HR := Lib.hid rA
  have hl := h.1
  have hcx := h.2.2.1
  have hcn := h.2.1
  unfold maxLen at hcx
  have HLen := Lib.hid hl
  have HK0 := Lib.hid (eb_new w en ao n cap)
  clear h rA hl
  go_enter Tryz.func28, Tryz.ntmps28
  go_wp2_with fail
  generalize w.alloc (.cells #[.string en, .slice ao n cap] 48) = W1 at HK0 ⊢
  go_loopw [3, 4, 5] (fun i s4 s5 wr => ∃ j : Nat, j ≤ n ∧ i = .int .i64 j ∧ Hid (∀ a ∈ l.take j, AtS a) ∧ Hid (EB w wr en ao n cap)) (fun i _ _ _ => n - (intOf i).toNat)
  case atStart => exact ⟨0, Nat.zero_le _, rfl, Lib.hid (fun v hv => by rw [List.take_zero] at hv; exact absurd hv List.not_mem_nil), HK0⟩
  case round =>
    obtain ⟨j, hj, rfl, HV, HKj⟩ := hrel
    obtain ⟨c0, c1⟩ := HKj.out.cells
    by_cases hlt : j < n
    · have d1 : decide ((j : Int) < (n : Int)) = true := decide_eq_true (by omega)
      have d0 : (0 : Int) ≤ (j : Int) := by omega
      have d3 : (j : Int) < (n : Int) := by omega
      obtain ⟨b, off, rfl, hbl, hs⟩ := (HA.out.below HKj.out.low).2.2.2 (by omega)
      obtain ⟨y0, vo, vn, vc, y1, hS⟩ := hs j hlt
      clear hs
      obtain ⟨hn0, hn1⟩ := HR.out _ (at_mem l j (by rw [HLen.out]; exact hlt))
      have HTk := Lib.hid (at_take l j (by rw [HLen.out]; exact hlt))
      obtain ⟨A, hA⟩ : ∃ x, atD l j = x := ⟨_, rfl⟩
      rw [hA] at y0 hS hn0 hn1 HTk
      clear hA
      obtain ⟨an, vs⟩ := A
      simp only at y0 hS hn0 hn1
      have HB1 := Lib.hid ((Below.refl wr.heap.size wr).alloc (Nat.le_refl _) (.cells #[.string an, .slice vo vn vc] 64))
      have HS1 := Lib.hid (hS.below HB1.out)
      have hvl := hS.1
      have HVl := Lib.hid hvl
      have hvx := hS.2.2.1
      unfold maxLen at hvx
      have hvc := hS.2.1
      have HRS := Lib.hid hn1
      have HKn := Lib.hid (HKj.out.step HB1.out)
      clear hS hn1 hvl
      by_cases h1 : 300 < an.size
      · have d4 : decide ((300 : Int) < (an.size : Int)) = true := decide_eq_true (by omega)
        go_wp2_with fail
        go_ret
        exact guardB_no HKn.out.low
      · have d4 : decide ((300 : Int) < (an.size : Int)) = false := decide_eq_false (by omega)
        by_cases h2 : 20 < vn
        · have d5 : decide ((20 : Int) < (vn : Int)) = true := decide_eq_true (by omega)
          go_wp2_with fail
          go_ret
          exact guardB_no HKn.out.low
        · have d5 : decide ((20 : Int) < (vn : Int)) = false := decide_eq_false (by omega)
          go_wp2_with fail
          go_loop [5] (fun k => ∃ q : Nat, q ≤ vn ∧ k = .int .i64 q ∧ Hid (∀ v ∈ vs.take q, v.size ≤ 300)) (fun k => vn - (intOf k).toNat)
          case atStart => exact ⟨0, Nat.zero_le _, rfl, Lib.hid (fun v hv => by rw [List.take_zero] at hv; cases hv)⟩
          case round =>
            obtain ⟨q, hq, rfl, HQ⟩ := hrel
            by_cases hqt : q < vn
            · have g1 : decide ((q : Int) < (vn : Int)) = true := decide_eq_true (by omega)
              have g0 : (0 : Int) ≤ (q : Int) := by omega
              have g3 : (q : Int) < (vn : Int) := by omega
              obtain ⟨vb, voff, rfl, hvb, hvs⟩ := HS1.out.2.2.2 (by omega)
              have hvcell := hvs q (by rw [HVl.out]; exact hqt)
              clear hvs
              have hvz := HRS.out _ (part_mem vs q (by rw [HVl.out]; exact hqt))
              have HT2 := Lib.hid (take_snoc vs q (by rw [HVl.out]; exact hqt))
              obtain ⟨x, hx⟩ : ∃ y, partAt vs q = y := ⟨_, rfl⟩
              rw [hx] at hvcell hvz HT2
              clear hx
              by_cases h3 : 300 < x.size
              · have g4 : decide ((300 : Int) < (x.size : Int)) = true := decide_eq_true (by omega)
                go_wp2_with fail
                go_ret
                exact guardB_no HKn.out.low
              · have g4 : decide ((300 : Int) < (x.size : Int)) = false := decide_eq_false (by omega)
                have HQ2 := Lib.hid (show ∀ v ∈ vs.take (q + 1), v.size ≤ 300 from fun v hv => by
                  rw [HT2.out] at hv
                  rcases List.mem_append.1 hv with k | k
                  · exact HQ.out v k
                  · rw [List.mem_singleton.1 k]; exact Nat.not_lt.1 h3)
                go_wp2_with fail
                go_round
                case rel => exact ⟨q + 1, by omega, by go_num, HQ2⟩
                case measure => simp [intOf]; omega
            · obtain rfl : vn = q := by omega
              have g1 : decide ((vn : Int) < (vn : Int)) = false := decide_eq_false (by omega)
              have HAl := Lib.hid (show ∀ v ∈ vs, v.size ≤ 300 by have := HQ.out; rwa [List.take_of_length_le (by rw [HVl.out]; exact Nat.le_refl _)] at this)
              have HV2 := Lib.hid (show ∀ a ∈ l.take (j + 1), AtS a from fun a ha => by
                rw [HTk.out] at ha
                rcases List.mem_append.1 ha with k | k
                · exact HV.out a k
                · rw [List.mem_singleton.1 k]; exact ⟨Nat.not_lt.1 h1, by show vs.length ≤ 20; rw [HVl.out]; omega, HAl.out⟩)
              go_wp2_with fail
              go_roundw
              case rel => exact ⟨j + 1, by omega, by go_num, HV2, HKn⟩
              case measure => simp [intOf]; omega
    · obtain rfl : n = j := by omega
      have d1 : decide ((n : Int) < (n : Int)) = false := decide_eq_false (by omega)
      have HVT := Lib.hid (show ∀ a ∈ l, AtS a by have := HV.out; rwa [List.take_of_length_le (by rw [HLen.out]; exact Nat.le_refl _)] at this)
      by_cases h5 : n ≤ 40
      · have d4 : decide ((n : Int) ≤ (40 : Int)) = true := decide_eq_true (by omega)
        have HG := Lib.hid (show LightE l from ⟨by rw [HLen.out]; exact h5, HVT.out⟩)
        go_wp2_with fail
        go_ret
        exact guardB_yes HG.out HKj.out.low
      · have d4 : decide ((n : Int) ≤ (40 : Int)) = false := decide_eq_false (by omega)
        go_wp2_with fail
        go_ret
        exact guardB_no HKj.out.low
end Go.Proofs.YtclfjdnemafmeaaGreatDoor
end

section
/-
  An entry that a law is given, read out of memory; the state of a law with a schema and an entry. No condition.
-/
set_option maxRecDepth 100000
namespace Go.Proofs.YtclfjdnemafmeaaGreatDoor
open Go.ChangeShapes Go.WideShapes Go.ChangeAt Go.RowKit Go.PlainAid
theorem trod_attrsR {H : Type} {enc : TypeId × Value → H} {W : World} {v : Value} {y : DataW H × List MemPlace} {fuel : Nat}
    (hf : DataW.trod enc Tryz.prog W 0 (fun _ => true) true fuel 46 [v] = some y) (hz : ∀ n ∈ y.1.weights Tryz.prog 46, n ≤ reachBytes) : ∃ ao n cap l, v = .slice ao n cap ∧ AttrsAt W ao n cap l ∧ RA l := by
  rcases Go.Deep.open_slice_pairs Tryz.underlying46 Tryz.underlying64 cells_attr rfl rfl (by kernel_rfl) (by kernel_rfl) hf with ⟨hcs, hx⟩ | ⟨a, len', cap', m, n, V0, V1, D0, D1, P0, P1, hcs, _, hl, hm, hmm, hx, hcell⟩
  · simp only [List.cons.injEq, and_true] at hcs
    exact ⟨none, 0, 0, [], hcs, ⟨rfl, Nat.le_refl _, by unfold maxLen; omega, fun h => absurd h (by omega)⟩, fun a ha => (List.not_mem_nil ha).elim⟩
  · simp only [List.cons.injEq, and_true] at hcs
    subst hcs
    simp only [if_true] at hmm
    rw [hmm] at hcell
    by_cases hn : 0 < len'
    · obtain ⟨b, off, spot⟩ := a
      have h1 := (hcell 0 (by omega)).1
      have hspot : spot = none := by simpa [Addr.add] using World.cell?_spot h1
      subst hspot
      have hb : b < W.heap.size := by
        rw [add_plain] at h1
        exact World.block_lt_of_cell? W _ h1
      have hd : y.1 = .slice ((List.range len').map fun i => .agg [D0 i, D1 i]) ((List.range (m - len')).map fun j => .agg [D0 (len' + j), D1 (len' + j)]) := congrArg Prod.fst hx
      obtain ⟨l, hpl, hps, hq⟩ := choose_attrsR (w := W) (b := b) (off := off) (len := len') (Q := fun a => a.1.size ≤ 140737488355328 ∧ RS a.2) (fun i hi => by
        obtain ⟨c0, c1, t0, t1⟩ := hcell i (by omega)
        rw [add_plain] at c0 c1
        have hw : ∀ n, n ∈ (DataW.agg [D0 i, D1 i]).weights Tryz.prog 64 → n ≤ reachBytes := fun n hn => hz n (by
          rw [hd]
          exact slice_mem Tryz.underlying46 (List.mem_map.2 ⟨i, List.mem_range.2 hi, rfl⟩) hn)
        have hw0 : ∀ n, n ∈ (D0 i).weights Tryz.prog 9 → n ≤ reachBytes := fun n hn => hw n (by
          simp only [DataW.weights, Tryz.underlying64, DataW.weightsEach, List.map_cons, List.map_nil, List.mem_append]
          exact .inl hn)
        have hw1 : ∀ n, n ∈ (D1 i).weights Tryz.prog 36 → n ≤ reachBytes := fun n hn => hw n (by
          simp only [DataW.weights, Tryz.underlying64, DataW.weightsEach, List.map_cons, List.map_nil, List.mem_append]
          exact .inr (.inl hn))
        obtain ⟨s0, e0, ed, _⟩ := DataW.trod_string Tryz.underlying9 t0
        simp only [List.cons.injEq, and_true] at e0
        have ed0 : D0 i = .lit (.string s0.data.toList) := congrArg Prod.fst ed
        obtain ⟨aj, nj, cj, ps, e1, hs, hr⟩ := trod_strsR t1 hw1
        rw [e0] at c0
        rw [e1, ← Nat.add_assoc] at c1
        refine ⟨(s0, ps), ⟨c0, aj, nj, cj, c1, hs⟩, ?_, hr⟩
        rw [ed0] at hw0
        refine reach_le (hw0 _ ?_)
        simp only [DataW.weights, List.mem_singleton]
        exact (str_len s0).symm)
      exact ⟨_, len', cap', l, rfl, ⟨hpl, hl, hm, fun _ => ⟨b, off, rfl, hb, hps⟩⟩, hq⟩
    · exact ⟨_, len', cap', [], rfl, ⟨by simp; omega, hl, hm, fun h => absurd h hn⟩, fun a ha => (List.not_mem_nil ha).elim⟩
theorem open_entryR {H : Type} {enc : TypeId × Value → H} {W : World} {base : Nat} {v : Value} {d : DataW H} {p : List MemPlace} (hval : Value.okWide Tryz.prog W .any base 48 v)
    (h0 : DataW.Trod enc Tryz.prog W 0 (fun _ => true) true 48 v d p) (hz : ∀ n ∈ d.weights Tryz.prog 48, n ≤ reachBytes) :
    ∃ en ao n cap l, v = .agg #[.string en, .slice ao n cap] ∧ en.size ≤ 140737488355328 ∧ AttrsAt W ao n cap l ∧ RA l := by
  obtain ⟨v0, v1, y0, y1, n, rfl, rfl, _, h1, h2⟩ := Go.Joins.open_agg2 Tryz.underlying48 (by kernel_rfl) (by kernel_rfl) hval h0
  simp only [DataW.weights, Tryz.underlying48, DataW.weightsEach, List.map_cons, List.map_nil, List.mem_append] at hz
  obtain ⟨s0, rfl, z0⟩ := trod_strR h1 fun n hn => hz n (.inl hn)
  obtain ⟨ao, m, cap, l, rfl, hl, rl⟩ := trod_attrsR h2 fun n hn => hz n (.inr (.inl hn))
  exact ⟨s0, ao, m, cap, l, rfl, z0, hl, rl⟩
end Go.Proofs.YtclfjdnemafmeaaGreatDoor
end

section
/-
  Pure facts of P7.7: a normal form is its own normal form, and the comparison of values is an order of their normal forms. No condition.
-/
set_option maxRecDepth 100000
namespace Go.Proofs.YtclfjdnemafmeaaGreatDoor
open Go.RowKit Go.PlainAid
theorem digs_S {l : List UInt8} (h : digsB l = true) : digS l = true := by
  obtain ⟨h1, h2⟩ := digs_parts h
  cases l with
  | nil => exact absurd rfl h1
  | cons c r => unfold digS; rw [h2]; rfl
theorem atoi_range64 {l : List UInt8} {v : Int} (h : Lib.atoiAll l = .ok v) : -9223372036854775808 ≤ v ∧ v ≤ 9223372036854775807 := Lib.atoiAll_bounds h
theorem numS_range {s : ByteArray} {n : Int} (h : numS s = some n) : -9223372036854775808 ≤ n ∧ n ≤ 9223372036854775807 := by
  unfold numS at h
  split at h
  · cases ha : Lib.atoiAll s.data.toList with
    | ok v => rw [ha] at h; obtain rfl := Option.some.inj h; exact atoi_range64 ha
    | _ => rw [ha] at h; simp at h
  · cases h
end Go.Proofs.YtclfjdnemafmeaaGreatDoor
end
