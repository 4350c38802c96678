/-
  Proved: identitylaw19.JournalPlays returns true for every string and every list of calls (the tied card). No condition beyond the row's own.
-/
import Derived.Test.YtafecnaeoeanmaaDoorJouW
import Derived.Test.YtafecnaeoeanmaaDoorJouN
set_option linter.unusedVariables false
set_option linter.unusedSimpArgs false
set_option linter.unnecessarySimpa false
namespace Go.Proofs.YtafecnaeoeanmaaDoor
open Go.ChangeShapes Go.WideShapes Go.ChangeAt Go.RowKit Go.PlainAid
open Go.ChangeMaps (open_string shut_string)

/-- what the loop keeps: both journals, apart, with the same records -/
structure PlI (w : World) (b1 b2 : Nat) (v1 v2 : Value) (L : List ByteArray) (d : Nat) (W : World) : Prop where
  low : Below w.heap.size w W
  j : JA W w.heap.size b1 L d v1
  k : RA W w.heap.size b2 L d v2
  ap : Ap b1 v1 b2 v2
theorem PlI.step {w W V : World} {b1 b2 d : Nat} {v1 v2 : Value} {L : List ByteArray} (h : PlI w b1 b2 v1 v2 L d W) (hb : Below W.heap.size W V) : PlI w b1 b2 v1 v2 L d V :=
  ⟨h.low.trans (hb.mono h.low.size), h.j.step hb, h.k.step hb, h.ap⟩
theorem PlI.play {w W V X : World} {b1 b2 c1 c2 d d' : Nat} {v1 v2 u1 u2 : Value} {L L' : List ByteArray} (h : PlI w b1 b2 v1 v2 L d W) (h1 : JA V w.heap.size c1 L' d' u1) (s1 : Sv b1 v1 c1 u1 W V) (h2 : RA X w.heap.size c2 L' d' u2) (s2 : Sv b2 v2 c2 u2 V X) : PlI w c1 c2 u1 u2 L' d' X := by
  obtain ⟨k1, a1⟩ := s1.other h.k h.ap
  obtain ⟨k2, a2⟩ := s2.other h1 a1.symm
  exact ⟨(h.low.trans (s1.below h.j)).trans (s2.below k1), k2, h2, a2.symm⟩
theorem ap_new {W V : World} {B b b' d d' : Nat} {me me' : Value} {t t' : TypeId} {l l' : List ByteArray} {v v' : Value} (h : OA W B b me t l d v) (h' : OA V W.heap.size b' me' t' l' d' v') : Ap b v b' v' := by
  have h1 := h.blk.big
  have h2 := h'.low
  refine ⟨by omega, fun e => ?_, fun e => ?_, ?_⟩
  · have := (h.row.lt _ e).2; omega
  · have := (h'.row.lt _ e).1; omega
  · cases e : v.ownBlock with
    | none => exact .inl rfl
    | some g =>
      refine .inr fun e2 => ?_
      have h3 := (h.row.lt g e).2
      have h4 := (h'.row.lt g e2.symm).1
      omega
theorem do_k (B b d : Nat) (l l' : List ByteArray) (v : Value) (c n x : Int) (d' : Nat) (s : ByteArray) (w : World) (h : JA w B b l d v) (ho : WJ w) (hd : doL l d c n s = (l', d', x)) :
    Calls Tryd.prog 24 #[.pointer (some ⟨b, 0, none⟩), .agg #[.int .i64 c, .int .i64 n, .string s]] w fun e w' => ∃ b' v', e = .returned (.tuple #[.pointer (some ⟨b', 0, none⟩), .int .i64 x]) ∧ JA w' B b' l' d' v' ∧ Sv b v b' v' w w' := by
  have := do_s B b d l v c n s w h ho
  rw [hd] at this; exact this
theorem done_k (B b d : Nat) (l l' : List ByteArray) (v : Value) (c n x : Int) (d' : Nat) (s : ByteArray) (w : World) (h : RA w B b l d v) (ho : WJ w) (hd : doL l d c n s = (l', d', x)) :
    Calls Tryd.prog 25 #[.pointer (some ⟨b, 0, none⟩), .agg #[.int .i64 c, .int .i64 n, .string s]] w fun e w' => ∃ b' v', e = .returned (.tuple #[.pointer (some ⟨b', 0, none⟩), .int .i64 x]) ∧ RA w' B b' l' d' v' ∧ Sv b v b' v' w w' := by
  have := done_s B b d l v c n s w h ho
  rw [hd] at this; exact this
theorem bytes_k (B b d : Nat) (l : List ByteArray) (v : Value) (q : ByteArray) (w : World) (h : JA w B b l d v) (ho : WJ w) (hq : encsS (l.take d) = q) :
    Calls Tryd.prog 22 #[.pointer (some ⟨b, 0, none⟩)] w fun e w' => e = .returned (.string q) ∧ Below w.heap.size w w' := by subst hq; exact bytes_s B b d l v w h ho
theorem rbytesM_k (B b d : Nat) (l : List ByteArray) (v : Value) (q : ByteArray) (w : World) (h : RA w B b l d v) (hq : encsS (l.take d) = q) :
    Calls Tryd.prog 23 #[.pointer (some ⟨b, 0, none⟩)] w fun e w' => e = .returned (.string q) ∧ Below w.heap.size w w' := by subst hq; exact rbytesM_s B b d l v w h
theorem light_k (ao : Option Addr) (n cap : Nat) (l : List Op) (r : Bool) (w : World) (h : OpsAt w ao n cap l) (hr : lightB l = r) :
    Calls Tryd.prog 15 #[.slice ao n cap] w fun e w' => e = .returned (.bool r) ∧ w = w' := by subst hr; exact light_s ao n cap l w h
theorem ops_cell {w : World} {b off n cap : Nat} {l : List Op} (h : OpsAt w (some ⟨b, off, none⟩) n cap l) {i : Nat} (hi : i < n) : ∀ V, Below w.heap.size w V → V.cell? ⟨b, off + i * 3, none⟩ = some (.int .i64 (opA l i).1) ∧ V.cell? ⟨b, off + i * 3 + 1, none⟩ = some (.int .i64 (opA l i).2.1) ∧ V.cell? ⟨b, off + i * 3 + 2, none⟩ = some (.string (opA l i).2.2) := by
  intro V hV
  obtain ⟨b', o', e, hc⟩ := (h.below hV).2.2.2.1 (by omega)
  cases e
  exact hc.2 i (by rw [h.1]; exact hi)
set_option maxRecDepth 100000 in
set_option maxHeartbeats 2000000 in
theorem plays_s (s : ByteArray) (l : Option Addr) (ln lc : Nat) (ll : List Op) (w : World) (hl : OpsAt w l ln lc ll) (ho : WJ w) :
    Calls Tryd.prog 4 #[.string s, .slice l ln lc] w fun e w' => e = .returned (.bool true) ∧ Below w.heap.size w w' := by
  have HW := Lib.hid (Below.refl w.heap.size w)
  have HO := Lib.hid ho
  clear ho
  have HL := Lib.hid hl
  have HN := Lib.hid hl.1
  have hmx : ln ≤ 9223372036854775807 := by have h1 := hl.2.1; have h2 := hl.2.2.1; unfold maxLen at h2; omega
  clear hl
  obtain ⟨lb, hlb⟩ : ∃ r, lightB ll = r := ⟨_, rfl⟩
  cases lb
  · have HB := Lib.hid hlb
    clear hlb
    go_enter Tryd.func4, Tryd.ntmps4
    go_wp2_with fail
    refine (light_k l ln lc ll false _ HL.out HB.out).mono ?_
    rintro e w' ⟨rfl, rfl⟩
    go_wp2_with fail
    refine (live_s _ HO.out).mono ?_
    rintro e w1 ⟨rfl, hb⟩
    go_wp2_with fail
    go_ret
    exact ⟨rfl, hb⟩
  · have HB := Lib.hid hlb
    have h20 : ln ≤ 20 := by rw [← HN.out]; exact (light_true hlb).1
    clear hlb
    by_cases hs : 1000 < s.size
    · have e1 : decide ((1000 : Int) < (s.size : Int)) = true := decide_eq_true (by omega)
      go_enter Tryd.func4, Tryd.ntmps4
      go_wp2_with fail
      refine (light_k l ln lc ll true _ HL.out HB.out).mono ?_
      rintro e w' ⟨rfl, rfl⟩
      go_wp2_with fail
      refine (live_s _ HO.out).mono ?_
      rintro e w1 ⟨rfl, hb⟩
      go_wp2_with fail
      go_ret
      exact ⟨rfl, hb⟩
    · have e1 : decide ((1000 : Int) < (s.size : Int)) = false := decide_eq_false (by omega)
      go_enter Tryd.func4, Tryd.ntmps4
      go_wp2_with fail
      refine (light_k l ln lc ll true _ HL.out HB.out).mono ?_
      rintro e w' ⟨rfl, rfl⟩
      go_wp2_with fail
      refine (open_s s _ (by omega) HO.out).mono ?_
      rintro e w1 ⟨b1, v1, rfl, hj, hb⟩
      have HJ := Lib.hid hj
      have HW := Lib.hid hb
      clear hj hb
      go_wp2_with fail
      refine (ropen_s s _ (by omega) (HO.out.at HW.out)).mono ?_
      rintro e w2 ⟨b2, v2, rfl, hj, hb⟩
      have HI := Lib.hid (show PlI w b1 b2 v1 v2 (openL s) (openL s).length w2 from ⟨HW.out.trans (hb.mono HW.out.size), HJ.out.step hb, OA.mono hj HW.out.size, ap_new HJ.out hj⟩)
      clear hj hb
      go_wp2_with fail
      go_loopw [5, 6, 7, 8, 9, 10, 11] (fun jv kv iv _ _ _ _ wr => ∃ (i b1 b2 d : Nat) (v1 v2 : Value) (L : List ByteArray), i ≤ ln ∧ jv = .pointer (some ⟨b1, 0, none⟩) ∧ kv = .pointer (some ⟨b2, 0, none⟩) ∧ iv = .int .i64 i ∧ Hid (PlI w b1 b2 v1 v2 L d wr)) (fun _ _ iv _ _ _ _ _ => ln - (intOf iv).toNat)
      case atStart => exact ⟨0, b1, b2, _, v1, v2, _, Nat.zero_le _, rfl, rfl, rfl, HI⟩
      case round =>
        clear HI HJ HW
        obtain ⟨i, c1, c2, d, x1, x2, L, hi, rfl, rfl, rfl, HI⟩ := hrel
        have e2 : decide ((i : Int) ≤ (ln : Int)) = true := decide_eq_true (by omega)
        have e2' : (i : Int) ≤ (ln : Int) := by omega
        obtain ⟨q, hq⟩ : ∃ q, encsS (L.take d) = q := ⟨_, rfl⟩
        have HQ := Lib.hid hq
        have q1 : (q.toList != q.toList) = false := by simp
        have q2 : ((d : Int) != (d : Int)) = false := by simp
        clear hq
        go_wp2_with fail
        refine (records_s _ c1 d L x1 _ HI.out.j).mono ?_
        rintro e w3 ⟨u, rfl, hu, hb⟩
        obtain ⟨ua, uc, hu'⟩ := row_slice hu
        subst hu'
        have HU := Lib.hid (strs_of hu rfl)
        have HI := Lib.hid (HI.out.step hb)
        clear hu hb
        go_wp2_with fail
        refine (rrecords_s _ c2 d L x2 _ HI.out.k).mono ?_
        rintro e w4 ⟨u, rfl, hu, hb⟩
        obtain ⟨va, vc, hu'⟩ := row_slice hu
        subst hu'
        have HV := Lib.hid (strs_of hu rfl)
        have HU := Lib.hid (HU.out.below hb)
        have HI := Lib.hid (HI.out.step hb)
        clear hu hb
        go_wp2_with fail
        refine (same_k ua va _ _ uc vc L L true _ HU.out HV.out (decide_eq_true rfl)).mono ?_
        rintro e w5 ⟨rfl, hb⟩
        have HI := Lib.hid (HI.out.step hb)
        clear hb HU HV
        go_wp2_with fail
        refine (durable_s _ c1 d L x1 _ HI.out.j).mono ?_
        rintro e w' ⟨rfl, rfl⟩
        go_wp2_with fail
        refine (rdurable_s _ c2 d L x2 _ HI.out.k).mono ?_
        rintro e w' ⟨rfl, rfl⟩
        go_wp2_with fail
        refine (bytes_k _ c1 d L x1 q _ HI.out.j (HO.out.at HI.out.low) HQ.out).mono ?_
        rintro e w6 ⟨rfl, hb⟩
        have HI := Lib.hid (HI.out.step hb)
        clear hb
        go_wp2_with fail
        refine (rbytesM_k _ c2 d L x2 q _ HI.out.k HQ.out).mono ?_
        rintro e w7 ⟨rfl, hb⟩
        have HI := Lib.hid (HI.out.step hb)
        clear hb
        by_cases hlt : i < ln
        · have e3 : ((i : Int) == (ln : Int)) = false := beq_false_of_ne (by omega)
          have e4 : (i : Int) < (ln : Int) := by omega
          obtain ⟨b, off, hao, _⟩ := HL.out.2.2.2.1 (by omega)
          subst hao
          have HC := Lib.hid (ops_cell HL.out hlt)
          obtain ⟨⟨oc, on, os⟩, hop⟩ : ∃ x, opA ll i = x := ⟨_, rfl⟩
          rw [hop] at HC
          clear hop
          obtain ⟨⟨L', d', x⟩, hd⟩ : ∃ x, doL L d oc on os = x := ⟨_, rfl⟩
          have HD := Lib.hid hd
          have q3 : ((x : Int) != (x : Int)) = false := by simp
          clear hd
          obtain ⟨l0, l1, l2⟩ := HC.out _ HI.out.low
          try dsimp only at l0 l1 l2
          go_wp2_with fail
          clear l0 l1 l2
          refine (do_k _ c1 d L L' x1 oc on x d' os _ HI.out.j (HO.out.at HI.out.low) HD.out).mono ?_
          rintro e w8 ⟨n1, y1, rfl, hj, hsv⟩
          have HJ := Lib.hid hj
          have HS := Lib.hid hsv
          have HK := Lib.hid (hsv.other HI.out.k HI.out.ap)
          have HW := Lib.hid (HI.out.low.trans (hsv.below HI.out.j))
          clear hj hsv
          obtain ⟨l0, l1, l2⟩ := HC.out _ HW.out
          try dsimp only at l0 l1 l2
          go_wp2_with fail
          clear l0 l1 l2
          refine (done_k _ c2 d L L' x2 oc on x d' os _ HK.out.1 (HO.out.at HW.out) HD.out).mono ?_
          rintro e w9 ⟨n2, y2, rfl, hj, hsv⟩
          have HI := Lib.hid (HI.out.play HJ.out HS.out hj hsv)
          clear hj hsv HK HW
          go_wp2_with fail
          go_roundw
          case rel => exact ⟨i + 1, n1, n2, d', y1, y2, L', by omega, rfl, rfl, by go_num, HI⟩
          case measure => simp [intOf]; omega
        · obtain rfl : i = ln := by omega
          have e3 : ((i : Int) == (i : Int)) = true := by simp
          go_wp2_with fail
          refine (live_s _ (HO.out.at HI.out.low)).mono ?_
          rintro e w8 ⟨rfl, hb⟩
          have HI := Lib.hid (HI.out.step hb)
          clear hb
          go_wp2_with fail
          go_ret
          exact ⟨rfl, HI.out.low⟩

theorem plays_types : ∀ t ∈ [9, 29], Tryd.prog.readableRec t = true ∧ t < Tryd.prog.types.size := by
  have h : ([9, 29].all fun t => Tryd.prog.readableRec t && decide (t < Tryd.prog.types.size)) = true := by kernel_rfl
  intro t ht
  have := List.all_eq_true.1 h t ht
  simpa using this

set_option maxRecDepth 100000 in
theorem plays_contract (H : Type) (enc : TypeId × Value → H) (W : World) (base : Nat) (args : Array Value) (ds gs : List (DataW H)) (before : List MemPlace)
    (hval : ∀ (j : Nat) t v, Tryd.f4.params[j]? = some t → args[j]? = some v → Value.okWide Tryd.prog W .any base t v)
    (hW : DataW.Whole enc Tryd.prog Tryd.f4.params.toList Rows.journalPlaysSpec.vars false W args.toList ds gs before) (hL : laidMetH Tryd.prog Rows.journalPlaysRow.laid W) (hsh : W.ShapedOpen Tryd.prog) :
    Calls Tryd.prog 4 args W fun e W' => ∃ v, e = .returned v ∧ Rows.journalPlaysSpec.post enc Tryd.prog Tryd.f4 false true false false W args v W' := by
  have hW' := hW
  obtain ⟨p, q, hA0, hV, rfl, hfz, hnd⟩ := hW
  have hA : DataW.TrodAll enc Tryd.prog W 0 (fun _ => true) true Tryd.f4.params.toList args.toList ds p := hA0
  obtain ⟨rfl, rfl⟩ := trodVars_none hV
  simp only [List.append_nil] at hW'
  have hlt : ∀ x ∈ p, x.block < W.heap.size := fun x hx => by simpa using hW'.lt x hx
  have fin : ∀ W', Below W.heap.size W W' → DataW.TrodAll enc Tryd.prog W' 0 (fun b => decide (b < W.heap.size)) true [9, 29] args.toList ds p := fun W' hb => by
    rw [Tryd.params4] at hA
    exact trodAll_below hb _ _ _ _ plays_types hA hlt
  clear hA0
  rw [Tryd.params4] at hA hval
  obtain ⟨v0, vs0, d0, ds0, p0, q0, hargs, rfl, hp0, h0, r0⟩ := trodAll_cons hA
  obtain ⟨v1, vs1, d1, ds1, p1, q1, rfl, rfl, hp1, h1, r1⟩ := trodAll_cons r0
  obtain ⟨rfl, rfl, rfl⟩ := trodAll_nil r1
  obtain rfl : args = #[v0, v1] := by cases args; simp_all
  obtain ⟨s, rfl, rfl, rfl, hs0⟩ := open_string Tryd.underlying9 (hval 0 9 v0 rfl rfl) h0
  obtain ⟨l, ln, lc, ll, rfl, hs1⟩ := open_ops (hval 1 29 v1 rfl rfl) h1
  refine (plays_s s l ln lc ll W hs1 (wj_of hL hsh)).mono fun e W' ⟨he, hb⟩ => ?_
  subst he
  exact ⟨_, rfl, _, _, _, [], p, [], hW', trodAll_mk1 (shut_bool Tryd.underlying4 _), fin W' hb, rfl, hb.frame _, fun h => by cases h⟩

set_option maxRecDepth 100000 in
theorem plays_lifted (os : Os) (started : os.Started) (H : Type) (enc : TypeId × Value → H) (F : Stop.Interp) :
    ReturnsInHanded {} Tryd.checked os 4 .any ((OpenSpec.ofChange Rows.journalPlaysSpec).preRow enc Tryd.prog Tryd.f4 Rows.journalPlaysRow.domain false Rows.journalPlaysRow.laid) (((OpenSpec.ofChange Rows.journalPlaysSpec).at F).post enc Tryd.prog Tryd.f4 false true false false) := by
  refine returnsInHanded_of_row (C := Tryd.checked) (s := OpenSpec.ofChange Rows.journalPlaysSpec) own started (by kernel_rfl) Tryd.func4
    (witness_row (enc := enc) (C := Tryd.checked) false (World.laidAll Tryd.prog os Rows.journalPlaysRow.laid) #[.string ⟨#[]⟩, .slice none 0 0] (World.laidAll_os _ _ _)
      (World.shaped_of_ZipB (by kernel_rfl) (by kernel_rfl)) (by kernel_rfl)
      (OpenSpec.preRow_of_cond 8 (x := ([.lit (.string []), .nil], [], [])) (by kernel_rfl) (by kernel_rfl) (fun k hk => by cases hk) (by kernel_rfl)
        (by rw [MakeChecks.laidMetH_plain _ _ _ (by kernel_rfl)]; exact laidMet_laidAll _ (by kernel_rfl) (by kernel_rfl)))) ?_
  intro W base args ds gs before hval hW _ _ _ hL hsh _
  exact plays_contract H enc W base args ds gs before hval hW hL hsh

set_option maxRecDepth 100000 in
theorem plays_said : Rows.JournalPlaysSaid :=
  OpenClaim.holds_of_cond 4 Tryd.f4 rfl rfl rfl rfl rfl rfl rfl ⟨rfl, rfl, rfl, rfl, rfl⟩ rfl rfl rfl rfl rfl (by kernel_rfl) Tryd.func4 (by kernel_rfl)
    (of_decide_eq_true (by kernel_rfl)) (by unfold Func.isWrapper; first | (rw [if_pos (by decide +kernel)]; kernel_rfl) | (rw [if_neg (by decide +kernel)]; exact ⟨rfl, rfl⟩))
    (fun os started H enc _ F => by rw [OpenClaim.pre_eq_preRow]; exact plays_lifted os started H enc F)

set_option maxRecDepth 100000 in
theorem plays_plain (f : FuncId) (fn : Func) (hf : Tryd.pinned.checked.prog.funcNamed "identity/identitylaw19.JournalPlays" = some f) (hfn : Tryd.pinned.checked.prog.funcs[f]? = some fn) :
    true = Tryd.pinned.checked.prog.looks [] ∧ ∀ (j : Nat) t, fn.params[j]? = some t → Tryd.pinned.checked.prog.wantsStandIn t = false := by
  obtain rfl : f = 4 := Option.some.inj ((show Tryd.prog.funcNamed "identity/identitylaw19.JournalPlays" = some 4 by kernel_rfl).symm.trans hf) |>.symm
  obtain rfl : fn = Tryd.f4 := (Option.some.inj (Tryd.func4.symm.trans hfn)).symm
  refine ⟨by kernel_rfl, fun j t ht => ?_⟩
  rw [Tryd.params4] at ht
  have hm : t ∈ [9, 29] := by simpa using Array.mem_of_getElem? ht
  have hall : ([9, 29].all fun u => !Tryd.prog.wantsStandIn u) = true := by kernel_rfl
  exact (show Tryd.prog.wantsStandIn t = false by simpa using List.all_eq_true.1 hall t hm)

/-- THE CARD -/
theorem plays_card : Rows.JournalPlaysCardSaid :=
  Claim7.holds_tied_plain_at .later [] _ _ _ _ plays_said (fun _ h => by cases h) (by kernel_rfl) (fun _ h => by cases h) journalPlays_row_tie rfl ⟨rfl, rfl⟩ (by kernel_rfl) rfl plays_plain (by kernel_rfl)
end Go.Proofs.YtafecnaeoeanmaaDoor
