/-
  Proved: identitylaw19.JournalBack returns true for every list of strings and every int (the tied card). No condition beyond the row's own.
-/
import Derived.Test.YtafecnaeoeanmaaDoorJouW
import Derived.Lib.MinMax
set_option linter.unusedVariables false
set_option linter.unusedSimpArgs false
set_option linter.unnecessarySimpa false
namespace Go.Proofs.YtafecnaeoeanmaaDoor
open Go.ChangeShapes Go.WideShapes Go.ChangeAt Go.RowKit Go.PlainAid
open Go.ChangeMaps (open_string shut_string)

/-- what the loop keeps -/
structure BkI (w : World) (ao : Option Addr) (n cap : Nat) (l : List ByteArray) (i : Nat) (t : ByteArray) (W : World) : Prop where
  low : Below w.heap.size w W
  ok : WJ W
  at_ : StrsAt W ao n cap l
  txt : t = encsS (l.take i)
  sm : ∀ r ∈ l.take i, r.size ≤ 300
  few : i ≤ 20
theorem BkI.step {w W V : World} {ao : Option Addr} {n cap i : Nat} {l : List ByteArray} {t : ByteArray} (h : BkI w ao n cap l i t W) (hb : Below W.heap.size W V) : BkI w ao n cap l i t V :=
  ⟨h.low.trans (hb.mono h.low.size), h.ok.below hb, h.at_.below hb, h.txt, h.sm, h.few⟩
theorem sz_20 {l : List ByteArray} (h : ∀ r ∈ l, r.size ≤ 300) (hl : l.length ≤ 20) : (encsS l).size ≤ 20000 := by
  have h1 := szS_le l 300 h
  have h2 := Nat.mul_le_mul_right (2 * 300 + 19) hl
  have h3 : szS l = (encsS l).size := rfl
  omega
theorem take_more {l : List ByteArray} {i : Nat} {r : ByteArray} (h : i < l.length) (hr : partAt l i = r) (hz : r.size ≤ 300) (hs : ∀ x ∈ l.take i, x.size ≤ 300) : encsS (l.take (i + 1)) = encsS (l.take i) ++ encS r ∧ ∀ x ∈ l.take (i + 1), x.size ≤ 300 := by
  rw [take_rec l i h, hr]
  refine ⟨encsS_snoc _ _, fun x hx => ?_⟩
  rcases List.mem_append.1 hx with hx | hx
  · exact hs x hx
  · rw [List.mem_singleton.1 hx]; exact hz
theorem enc_front (l : List ByteArray) (m : Nat) : (encsS l).extract 0 (szS (l.take m)) = encsS (l.take m) := by
  have h : encsS l = encsS (l.take m) ++ encsS (l.drop m) := by rw [← encsS_app, List.take_append_drop]
  have e : ((encsS l).extract 0 (szS (l.take m))).data.toList = (encsS (l.take m)).data.toList := by
    rw [ext_take, h, ByteArray.data_append, Array.toList_append]
    refine List.take_left' ?_
    rw [L_len]; rfl
  rw [← ofL_back ((encsS l).extract 0 (szS (l.take m))), e, ofL_back]
theorem sz_next (l : List ByteArray) (m : Nat) (h : m < l.length) : szS (l.take (m + 1)) = szS (l.take m) + (encS (partAt l m)).size := by rw [take_rec l m h, szS_snoc]
set_option maxRecDepth 100000 in
set_option maxHeartbeats 2000000 in
theorem back_s (l : Option Addr) (ln lc : Nat) (ll : List ByteArray) (cut : Int) (w : World) (hl : StrsAt w l ln lc ll) (hcut : (Lit.int .i64 cut).wf = true) (ho : WJ w) :
    Calls Tryd.prog 7 #[.slice l ln lc, .int .i64 cut] w fun e w' => e = .returned (.bool true) ∧ Below w.heap.size w w' := by
  have HW := Lib.hid (Below.refl w.heap.size w)
  have HO := Lib.hid ho
  clear ho
  have HA := Lib.hid hl
  have HN := Lib.hid hl.1
  obtain ⟨c1, c2⟩ := int_range hcut
  have hcap : ln ≤ lc := hl.2.1
  have hmx : lc ≤ 9223372036854775807 := by have := hl.2.2.1; unfold maxLen at this; omega
  have HI := Lib.hid (show BkI w l ln lc ll 0 ⟨#[]⟩ w from ⟨Below.refl _ _, HO.out, hl, rfl, (by intro r hr; cases hr), Nat.zero_le _⟩)
  clear hl hcut HW HO
  go_enter Tryd.func7, Tryd.ntmps7
  go_wp2_with fail
  go_loopw [5, 6] (fun sv iv wr => ∃ (i : Nat) (t : ByteArray), i ≤ ln ∧ iv = .int .i64 i ∧ sv = .string t ∧ Hid (BkI w l ln lc ll i t wr)) (fun _ iv _ => ln - (intOf iv).toNat)
  case atStart => exact ⟨0, ⟨#[]⟩, Nat.zero_le _, rfl, rfl, HI⟩
  case round =>
    clear HI
    obtain ⟨i, t, hi, rfl, rfl, HI⟩ := hrel
    by_cases hlt : i < ln
    · have e1 : decide ((i : Int) < (ln : Int)) = true := decide_eq_true (by omega)
      have e1' : (i : Int) < (ln : Int) := by omega
      by_cases h20 : 20 ≤ i
      · have e2 : decide ((20 : Int) ≤ (i : Int)) = true := decide_eq_true (by omega)
        go_wp2_with fail
        refine (live_s _ HI.out.ok).mono ?_
        rintro e w1 ⟨rfl, hb⟩
        have HI := Lib.hid (HI.out.step hb)
        clear hb
        go_wp2_with fail
        go_ret
        exact ⟨rfl, HI.out.low⟩
      · have e2 : decide ((20 : Int) ≤ (i : Int)) = false := decide_eq_false (by omega)
        have HLt := Lib.hid (show i < ll.length by rw [HN.out]; exact hlt)
        obtain ⟨b, off, hao, hb0, hat⟩ := HI.out.at_.at (by omega)
        have hcell := hat _ (Below.refl _ _) i hlt
        subst hao
        clear hat hb0
        obtain ⟨r, hr⟩ : ∃ r, partAt ll i = r := ⟨_, rfl⟩
        rw [hr] at hcell
        have HR := Lib.hid hr
        clear hr
        by_cases hz : r.size ≤ 300
        · have e3 : decide ((300 : Int) < (r.size : Int)) = false := decide_eq_false (by omega)
          obtain ⟨q, hq⟩ : ∃ q, encS r = q := ⟨_, rfl⟩
          have HM := Lib.hid (take_more HLt.out HR.out hz HI.out.sm)
          have ht1 : t.size ≤ 20000 := by rw [HI.out.txt]; exact sz_20 HI.out.sm (by rw [List.length_take]; omega)
          have hq1 : q.size ≤ 1000 := by rw [← hq]; have := encS_le r; omega
          rw [hq] at HM
          have y1 : ¬ (9223372036854775807 < t.size + q.size) := by omega
          have HQ := Lib.hid hq
          clear hq
          go_wp2_with fail
          clear hcell
          refine (encode_k r q _ (by omega) HI.out.ok HQ.out).mono ?_
          rintro e w1 ⟨rfl, hb⟩
          have HI := Lib.hid (HI.out.step hb)
          clear hb
          go_wp2_with fail
          go_roundw
          case rel => exact ⟨i + 1, t ++ q, by omega, by go_num, rfl, Lib.hid ⟨HI.out.low, HI.out.ok, HI.out.at_, by rw [HM.out.1, ← HI.out.txt], HM.out.2, by omega⟩⟩
          case measure => simp [intOf]; omega
        · have e3 : decide ((300 : Int) < (r.size : Int)) = true := decide_eq_true (by omega)
          go_wp2_with fail
          clear hcell
          refine (live_s _ HI.out.ok).mono ?_
          rintro e w1 ⟨rfl, hb⟩
          have HI := Lib.hid (HI.out.step hb)
          clear hb
          go_wp2_with fail
          go_ret
          exact ⟨rfl, HI.out.low⟩
    · have e1 : decide ((i : Int) < (ln : Int)) = false := decide_eq_false (by omega)
      have e1' : ¬ (i : Int) < (ln : Int) := by omega
      obtain rfl : i = ln := by omega
      have HT0 := Lib.hid (List.take_of_length_le (l := ll) (i := i) (by rw [HN.out]; exact Nat.le_refl _))
      have HT := Lib.hid (show t = encsS ll by have := HI.out.txt; rw [HT0.out] at this; exact this)
      have HZ := Lib.hid (show ∀ r ∈ ll, r.size ≤ 300 from fun r hr => HI.out.sm r (by rw [HT0.out]; exact hr))
      have h20 := HI.out.few
      have HZ4 := Lib.hid (show ∀ r ∈ ll, r.size ≤ 4096 from fun r hr => Nat.le_trans (HZ.out r hr) (by decide))
      have ht1 : t.size ≤ 20000 := by rw [HT.out]; exact sz_20 HZ.out (by rw [HN.out]; exact h20)
      have HDt := Lib.hid (show decS t = ll by rw [HT.out]; exact decS_encs HZ4.out)
      have HSt := Lib.hid (show szS ll = t.size by rw [HT.out]; rfl)
      obtain ⟨kp, hkp⟩ : ∃ kp, kpN cut t.size = kp := ⟨_, rfl⟩
      have k1 : max 0 (min cut (t.size : Int)) = (kp : Int) := by rw [← hkp, ← kp_int]; omega
      have k2 : kp ≤ t.size := by rw [← hkp]; exact kp_le _ _
      clear hkp
      obtain ⟨m, m1, m2, m3, m4⟩ := decS_take kp HZ4.out
      rw [← HT.out] at m2
      obtain ⟨x, hx⟩ : ∃ x, t.extract 0 kp = x := ⟨_, rfl⟩
      rw [hx] at m2
      have hx1 : x.size ≤ 1000000000 := by rw [← hx, ByteArray.size_extract]; omega
      obtain ⟨bl, hbl⟩ : ∃ bl, ll.take m = bl := ⟨_, rfl⟩
      obtain ⟨mz, hmz⟩ : ∃ mz, szS bl = mz := ⟨_, rfl⟩
      have HB0 := Lib.hid hbl
      have HMz := Lib.hid hmz
      have hml : m ≤ i := by rw [← HN.out]; exact m1
      have HBl := Lib.hid (show bl.length = m by rw [← hbl, List.length_take]; omega)
      have HDx := Lib.hid (show decS x = bl by rw [m2, hbl])
      have hmk : mz ≤ kp := by rw [← hmz, ← hbl]; exact m3
      obtain ⟨y, hy⟩ : ∃ y, t.extract 0 mz = y := ⟨_, rfl⟩
      have hy1 : y.size ≤ 1000000000 := by rw [← hy, ByteArray.size_extract]; omega
      have HDy := Lib.hid (show decS y = bl by
        rw [← hy, HT.out, ← hmz, ← hbl, enc_front]
        exact decS_encs fun r hr => HZ4.out r (List.mem_of_mem_take hr))
      have HM4 := Lib.hid (show m = i ∨ (m < i ∧ kp < mz + (encS (partAt ll m)).size) by
        rw [HN.out] at m4
        by_cases e : m = i
        · exact .inl e
        · refine .inr ⟨by omega, ?_⟩
          rcases m4 with m4 | m4
          · exact absurd m4 e
          · rw [sz_next ll m (by rw [HN.out]; omega), hbl, hmz] at m4; exact m4)
      clear m1 m2 m3 m4 hbl hmz
      have g1 : ((t.size : Int) != (t.size : Int)) = false := by simp
      have g2 : decide ((i : Int) < (m : Int)) = false := decide_eq_false (by omega)
      have g3 : decide ((kp : Int) < (mz : Int)) = false := decide_eq_false (by omega)
      have g4 : min (m : Int) (i : Int) = (m : Int) := by omega
      have g5 : m ≤ lc := by omega
      go_wp2_with fail
      refine (decode_k t ll t.size _ (by omega) HI.out.ok HDt.out HSt.out).mono ?_
      rintro e w1 ⟨u, rfl, hu, hb⟩
      rw [HN.out] at hu
      obtain ⟨ua, uc, hu'⟩ := row_slice hu
      subst hu'
      have HU := Lib.hid (strs_of hu HN.out)
      have HI := Lib.hid (HI.out.step hb)
      clear hu hb
      go_wp2_with fail
      refine (decode_k x bl mz _ hx1 HI.out.ok HDx.out HMz.out).mono ?_
      rintro e w2 ⟨u, rfl, hu, hb⟩
      rw [HBl.out] at hu
      obtain ⟨va, vc, hu'⟩ := row_slice hu
      subst hu'
      have HV := Lib.hid (strs_of hu HBl.out)
      have HU := Lib.hid (HU.out.below hb)
      have HI := Lib.hid (HI.out.step hb)
      clear hu hb
      by_cases hpos : 0 < i
      · obtain ⟨b, off, hao, hb0, hat⟩ := HI.out.at_.at hpos
        subst hao
        have HC := Lib.hid (show StrsAt w2 (some ⟨b, off, none⟩) m lc bl from by rw [← HB0.out]; exact HI.out.at_.upto m hml)
        clear hb0 hat
        go_wp2_with fail
        refine (same_k ua (some ⟨b, off, none⟩) i i uc lc ll ll true _ HU.out HI.out.at_ (decide_eq_true rfl)).mono ?_
        rintro e w3 ⟨rfl, hb⟩
        have HV := Lib.hid (HV.out.below hb)
        have HI := Lib.hid (HI.out.step hb)
        have HC := Lib.hid (HC.out.below hb)
        clear hb
        go_wp2_with fail
        refine (same_k va _ m m vc _ bl bl true _ HV.out HC.out (decide_eq_true rfl)).mono ?_
        rintro e w4 ⟨rfl, hb⟩
        have HV := Lib.hid (HV.out.below hb)
        have HI := Lib.hid (HI.out.step hb)
        clear hb HC
        go_wp2_with fail
        refine (decode_k y bl mz _ hy1 HI.out.ok HDy.out HMz.out).mono ?_
        rintro e w5 ⟨u, rfl, hu, hb⟩
        rw [HBl.out] at hu
        obtain ⟨ya, yc, hu'⟩ := row_slice hu
        subst hu'
        have HY := Lib.hid (strs_of hu HBl.out)
        have HV := Lib.hid (HV.out.below hb)
        have HI := Lib.hid (HI.out.step hb)
        clear hu hb
        rcases HM4.out with hm | ⟨hm, hkq⟩
        · subst hm
          have g6 : ((m : Int) == (m : Int)) = true := by simp
          go_wp2_with fail
          refine (same_k ya va m m yc vc bl bl true _ HY.out HV.out (decide_eq_true rfl)).mono ?_
          rintro e w7 ⟨rfl, hb⟩
          have HI := Lib.hid (HI.out.step hb)
          clear hb
          go_wp2_with fail
          refine (live_s _ HI.out.ok).mono ?_
          rintro e w8 ⟨rfl, hb⟩
          have HI := Lib.hid (HI.out.step hb)
          clear hb
          go_wp2_with fail
          go_ret
          exact ⟨rfl, HI.out.low⟩
        · have g6 : ((m : Int) == (i : Int)) = false := beq_false_of_ne (by omega)
          obtain ⟨r, hr⟩ : ∃ r, partAt ll m = r := ⟨_, rfl⟩
          obtain ⟨q, hq⟩ : ∃ q, encS r = q := ⟨_, rfl⟩
          have hz : r.size ≤ 300 := by rw [← hr]; exact HZ.out _ (rec_mem ll m (by rw [HN.out]; exact hm))
          have hq1 : q.size ≤ 1000 := by rw [← hq]; have := encS_le r; omega
          rw [hr, hq] at hkq
          have HQ := Lib.hid hq
          obtain ⟨b', off', e', _, hat⟩ := HI.out.at_.at hpos
          cases e'
          have hcell := hat _ (Below.refl _ _) m hm
          rw [hr] at hcell
          have g7 : decide ((kp : Int) < (mz : Int) + (q.size : Int)) = true := decide_eq_true (by omega)
          have g8 : (m : Int) < (i : Int) := by omega
          clear hat hr hq
          go_wp2_with fail
          clear hcell
          refine (encode_k r q _ (by omega) HI.out.ok HQ.out).mono ?_
          rintro e w6 ⟨rfl, hb⟩
          have HY := Lib.hid (HY.out.below hb)
          have HV := Lib.hid (HV.out.below hb)
          have HI := Lib.hid (HI.out.step hb)
          clear hb
          go_wp2_with fail
          refine (same_k ya va m m yc vc bl bl true _ HY.out HV.out (decide_eq_true rfl)).mono ?_
          rintro e w7 ⟨rfl, hb⟩
          have HI := Lib.hid (HI.out.step hb)
          clear hb
          go_wp2_with fail
          refine (live_s _ HI.out.ok).mono ?_
          rintro e w8 ⟨rfl, hb⟩
          have HI := Lib.hid (HI.out.step hb)
          clear hb
          go_wp2_with fail
          go_ret
          exact ⟨rfl, HI.out.low⟩
      · obtain rfl : i = 0 := by omega
        obtain rfl : m = 0 := by omega
        have g6 : ((0 : Int) == (0 : Int)) = true := by simp
        have HC := Lib.hid (fun (a : Option Addr) (c : Nat) (hc : c ≤ 9223372036854775807) => strs_no w2 a c bl 0 HBl.out rfl (by unfold maxLen; omega))
        rcases l with _ | a
        · skip
          go_wp2_with fail
          refine (same_k ua none 0 0 uc lc ll ll true _ HU.out HI.out.at_ (decide_eq_true rfl)).mono ?_
          rintro e w3 ⟨rfl, hb⟩
          have HV := Lib.hid (HV.out.below hb)
          have HI := Lib.hid (HI.out.step hb)
          clear hb
          go_wp2_with fail
          refine (same_k va _ 0 0 vc _ bl bl true _ HV.out (strs_no _ _ _ bl 0 HBl.out rfl (by unfold maxLen; omega)) (decide_eq_true rfl)).mono ?_
          rintro e w4 ⟨rfl, hb⟩
          have HV := Lib.hid (HV.out.below hb)
          have HI := Lib.hid (HI.out.step hb)
          clear hb
          go_wp2_with fail
          refine (decode_k y bl mz _ hy1 HI.out.ok HDy.out HMz.out).mono ?_
          rintro e w5 ⟨u, rfl, hu, hb⟩
          rw [HBl.out] at hu
          obtain ⟨ya, yc, hu'⟩ := row_slice hu
          subst hu'
          have HY := Lib.hid (strs_of hu HBl.out)
          have HV := Lib.hid (HV.out.below hb)
          have HI := Lib.hid (HI.out.step hb)
          clear hu hb
          go_wp2_with fail
          refine (same_k ya va 0 0 yc vc bl bl true _ HY.out HV.out (decide_eq_true rfl)).mono ?_
          rintro e w7 ⟨rfl, hb⟩
          have HI := Lib.hid (HI.out.step hb)
          clear hb
          go_wp2_with fail
          refine (live_s _ HI.out.ok).mono ?_
          rintro e w8 ⟨rfl, hb⟩
          have HI := Lib.hid (HI.out.step hb)
          clear hb
          go_wp2_with fail
          go_ret
          exact ⟨rfl, HI.out.low⟩
        · skip
          go_wp2_with fail
          refine (same_k ua (some a) 0 0 uc lc ll ll true _ HU.out HI.out.at_ (decide_eq_true rfl)).mono ?_
          rintro e w3 ⟨rfl, hb⟩
          have HV := Lib.hid (HV.out.below hb)
          have HI := Lib.hid (HI.out.step hb)
          clear hb
          go_wp2_with fail
          refine (same_k va _ 0 0 vc _ bl bl true _ HV.out (strs_no _ _ _ bl 0 HBl.out rfl (by unfold maxLen; omega)) (decide_eq_true rfl)).mono ?_
          rintro e w4 ⟨rfl, hb⟩
          have HV := Lib.hid (HV.out.below hb)
          have HI := Lib.hid (HI.out.step hb)
          clear hb
          go_wp2_with fail
          refine (decode_k y bl mz _ hy1 HI.out.ok HDy.out HMz.out).mono ?_
          rintro e w5 ⟨u, rfl, hu, hb⟩
          rw [HBl.out] at hu
          obtain ⟨ya, yc, hu'⟩ := row_slice hu
          subst hu'
          have HY := Lib.hid (strs_of hu HBl.out)
          have HV := Lib.hid (HV.out.below hb)
          have HI := Lib.hid (HI.out.step hb)
          clear hu hb
          go_wp2_with fail
          refine (same_k ya va 0 0 yc vc bl bl true _ HY.out HV.out (decide_eq_true rfl)).mono ?_
          rintro e w7 ⟨rfl, hb⟩
          have HI := Lib.hid (HI.out.step hb)
          clear hb
          go_wp2_with fail
          refine (live_s _ HI.out.ok).mono ?_
          rintro e w8 ⟨rfl, hb⟩
          have HI := Lib.hid (HI.out.step hb)
          clear hb
          go_wp2_with fail
          go_ret
          exact ⟨rfl, HI.out.low⟩

theorem back_types : ∀ t ∈ [23, 3], Tryd.prog.readableRec t = true ∧ t < Tryd.prog.types.size := by
  have h : ([23, 3].all fun t => Tryd.prog.readableRec t && decide (t < Tryd.prog.types.size)) = true := by kernel_rfl
  intro t ht
  have := List.all_eq_true.1 h t ht
  simpa using this

set_option maxRecDepth 100000 in
theorem back_contract (H : Type) (enc : TypeId × Value → H) (W : World) (base : Nat) (args : Array Value) (ds gs : List (DataW H)) (before : List MemPlace)
    (hval : ∀ (j : Nat) t v, Tryd.f7.params[j]? = some t → args[j]? = some v → Value.okWide Tryd.prog W .any base t v)
    (hW : DataW.Whole enc Tryd.prog Tryd.f7.params.toList Rows.journalBackSpec.vars false W args.toList ds gs before) (hL : laidMetH Tryd.prog Rows.journalBackRow.laid W) (hsh : W.ShapedOpen Tryd.prog) :
    Calls Tryd.prog 7 args W fun e W' => ∃ v, e = .returned v ∧ Rows.journalBackSpec.post enc Tryd.prog Tryd.f7 false true false false W args v W' := by
  have hW' := hW
  obtain ⟨p, q, hA0, hV, rfl, hfz, hnd⟩ := hW
  have hA : DataW.TrodAll enc Tryd.prog W 0 (fun _ => true) true Tryd.f7.params.toList args.toList ds p := hA0
  obtain ⟨rfl, rfl⟩ := trodVars_none hV
  simp only [List.append_nil] at hW'
  have hlt : ∀ x ∈ p, x.block < W.heap.size := fun x hx => by simpa using hW'.lt x hx
  have fin : ∀ W', Below W.heap.size W W' → DataW.TrodAll enc Tryd.prog W' 0 (fun b => decide (b < W.heap.size)) true [23, 3] args.toList ds p := fun W' hb => by
    rw [Tryd.params7] at hA
    exact trodAll_below hb _ _ _ _ back_types hA hlt
  clear hA0
  rw [Tryd.params7] at hA hval
  obtain ⟨v0, vs0, d0, ds0, p0, q0, hargs, rfl, hp0, h0, r0⟩ := trodAll_cons hA
  obtain ⟨v1, vs1, d1, ds1, p1, q1, rfl, rfl, hp1, h1, r1⟩ := trodAll_cons r0
  obtain ⟨rfl, rfl, rfl⟩ := trodAll_nil r1
  obtain rfl : args = #[v0, v1] := by cases args; simp_all
  obtain ⟨l, ln, lc, ll, rfl, hs0⟩ := open_strs (hval 0 23 v0 rfl rfl) h0
  obtain ⟨cut, rfl, rfl, rfl, hs1⟩ := open_int Tryd.underlying3 (hval 1 3 v1 rfl rfl) h1
  refine (back_s l ln lc ll cut W hs0 hs1 (wj_of hL hsh)).mono fun e W' ⟨he, hb⟩ => ?_
  subst he
  exact ⟨_, rfl, _, _, _, [], p, [], hW', trodAll_mk1 (shut_bool Tryd.underlying4 _), fin W' hb, rfl, hb.frame _, fun h => by cases h⟩

set_option maxRecDepth 100000 in
theorem back_lifted (os : Os) (started : os.Started) (H : Type) (enc : TypeId × Value → H) (F : Stop.Interp) :
    ReturnsInHanded {} Tryd.checked os 7 .any ((OpenSpec.ofChange Rows.journalBackSpec).preRow enc Tryd.prog Tryd.f7 Rows.journalBackRow.domain false Rows.journalBackRow.laid) (((OpenSpec.ofChange Rows.journalBackSpec).at F).post enc Tryd.prog Tryd.f7 false true false false) := by
  refine returnsInHanded_of_row (C := Tryd.checked) (s := OpenSpec.ofChange Rows.journalBackSpec) own started (by kernel_rfl) Tryd.func7
    (witness_row (enc := enc) (C := Tryd.checked) false (World.laidAll Tryd.prog os Rows.journalBackRow.laid) #[.slice none 0 0, .int .i64 0] (World.laidAll_os _ _ _)
      (World.shaped_of_ZipB (by kernel_rfl) (by kernel_rfl)) (by kernel_rfl)
      (OpenSpec.preRow_of_cond 8 (x := ([.nil, .lit (.int .i64 0)], [], [])) (by kernel_rfl) (by kernel_rfl) (fun k hk => by cases hk) (by kernel_rfl)
        (by rw [MakeChecks.laidMetH_plain _ _ _ (by kernel_rfl)]; exact laidMet_laidAll _ (by kernel_rfl) (by kernel_rfl)))) ?_
  intro W base args ds gs before hval hW _ _ _ hL hsh _
  exact back_contract H enc W base args ds gs before hval hW hL hsh

set_option maxRecDepth 100000 in
theorem back_said : Rows.JournalBackSaid :=
  OpenClaim.holds_of_cond 7 Tryd.f7 rfl rfl rfl rfl rfl rfl rfl ⟨rfl, rfl, rfl, rfl, rfl⟩ rfl rfl rfl rfl rfl (by kernel_rfl) Tryd.func7 (by kernel_rfl)
    (of_decide_eq_true (by kernel_rfl)) (by unfold Func.isWrapper; first | (rw [if_pos (by decide +kernel)]; kernel_rfl) | (rw [if_neg (by decide +kernel)]; exact ⟨rfl, rfl⟩))
    (fun os started H enc _ F => by rw [OpenClaim.pre_eq_preRow]; exact back_lifted os started H enc F)

set_option maxRecDepth 100000 in
theorem back_plain (f : FuncId) (fn : Func) (hf : Tryd.pinned.checked.prog.funcNamed "identity/identitylaw19.JournalBack" = some f) (hfn : Tryd.pinned.checked.prog.funcs[f]? = some fn) :
    true = Tryd.pinned.checked.prog.looks [] ∧ ∀ (j : Nat) t, fn.params[j]? = some t → Tryd.pinned.checked.prog.wantsStandIn t = false := by
  obtain rfl : f = 7 := Option.some.inj ((show Tryd.prog.funcNamed "identity/identitylaw19.JournalBack" = some 7 by kernel_rfl).symm.trans hf) |>.symm
  obtain rfl : fn = Tryd.f7 := (Option.some.inj (Tryd.func7.symm.trans hfn)).symm
  refine ⟨by kernel_rfl, fun j t ht => ?_⟩
  rw [Tryd.params7] at ht
  have hm : t ∈ [23, 3] := by simpa using Array.mem_of_getElem? ht
  have hall : ([23, 3].all fun u => !Tryd.prog.wantsStandIn u) = true := by kernel_rfl
  exact (show Tryd.prog.wantsStandIn t = false by simpa using List.all_eq_true.1 hall t hm)

/-- THE CARD -/
theorem back_card : Rows.JournalBackCardSaid :=
  Claim7.holds_tied_plain_at .later [] _ _ _ _ back_said (fun _ h => by cases h) (by kernel_rfl) (fun _ h => by cases h) journalBack_row_tie rfl ⟨rfl, rfl⟩ (by kernel_rfl) rfl back_plain (by kernel_rfl)
end Go.Proofs.YtafecnaeoeanmaaDoor
