/-
  Proved: identitylaw24.KeysFollows returns true for all arguments (the tied card). No condition beyond the row's own.
-/
import Derived.Deep.RegionHeld3
import Derived.Test.YtgepcbggkfjlgaaGreatDoorM16

section
/-
  Proved: identitylaw24.KeysFollows returns true for all arguments (the tied card). No condition beyond the row's own.
-/
set_option linter.unusedVariables false
set_option linter.unusedSimpArgs false
set_option linter.unnecessarySimpa false
namespace Go.Proofs.YtgepcbggkfjlgaaGreatDoor
open Go.ChangeShapes Go.WideShapes Go.ChangeAt Go.RowKit Go.PlainAid
open Go.ChangeMaps (open_string shut_string)

theorem rotate_q (ao : Option Addr) (n cap : Nat) (l L : List Ky) (id sec : ByteArray) (now life grace z : Int) (N : Nat) (w : World) (h : KsAt w ao n cap l) (hs : ∀ k ∈ l, SmK k) (hi : id.size ≤ 1000000000) (hc : sec.size ≤ 1000000000) (hz : rotK l id sec now life grace = (L, z)) (hN : L.length = N) :
    Calls Tryz.prog 19 #[.slice ao n cap, .string id, .string sec, .int .i64 now, .int .i64 life, .int .i64 grace] w fun e w' => ∃ bo dap, e = .returned (.tuple #[.slice bo N dap, .int .i64 z]) ∧ KsAt w' bo N dap L ∧ Below w.heap.size w w' := by
  subst hN; exact rotate_k ao n cap l L id sec now life grace z w h hs hi hc hz
theorem signing_q (ao : Option Addr) (n cap : Nat) (l : List Ky) (t : Int) (o : Option Ky) (g : Ky) (b : Bool) (w : World) (h : KsAt w ao n cap l) (hs : ∀ k ∈ l, SmK k) (ho : sgnK l t = o) (hg : o.getD kZ = g) (hb : o.isSome = b) :
    Calls Tryz.prog 14 #[.slice ao n cap, .int .i64 t] w fun e w' => e = .returned (.tuple #[kV g, .bool b]) ∧ Below w.heap.size w w' := by
  subst hg; subst hb; exact signing_k ao n cap l t o w h hs ho
set_option maxRecDepth 100000 in
set_option maxHeartbeats 16000000 in
theorem kfollows_s (l : Option Addr) (ln lc : Nat) (ll : List Ky) (id : ByteArray) (sec : ByteArray) (now : Int) (life : Int) (grace : Int) (tt : Int) (skew : Int) (w : World) (hl : KsAt w l ln lc ll) (il : ∀ g ∈ ll, InK g) (hnow : (Lit.int .i64 now).wf = true) (hlife : (Lit.int .i64 life).wf = true) (hgrace : (Lit.int .i64 grace).wf = true) (htt : (Lit.int .i64 tt).wf = true) (hskew : (Lit.int .i64 skew).wf = true) (ho : WK w) :
    Calls Tryz.prog 6 #[.slice l ln lc, .string id, .string sec, .int .i64 now, .int .i64 life, .int .i64 grace, .int .i64 tt, .int .i64 skew] w fun e w' => e = .returned (.bool true) ∧ Below w.heap.size w w' := by
  have HO := Lib.hid ho
  have HK := Lib.hid hl
  have HB := Lib.hid (Below.refl w.heap.size w)
  have hlc := hl.2.1
  have hlm := hl.2.2.1
  unfold maxLen at hlm
  have HLn := Lib.hid hl.1
  clear ho
  have hLn := hl.1
  subst hLn
  cases hg : greatB ll 15
  · by_cases h1 : 300 < id.size
    · have HG := Lib.hid hg
      have d1 : (300 : Int) < (id.size : Int) := by omega
      clear hg hl h1
      go_enter Tryz.func6, Tryz.ntmps6
      go_wp2_with fail
      refine (great_k l ll.length lc ll 15 false _ HK.out HG.out).mono ?_
      rintro e w' ⟨rfl, rfl⟩
      go_wp2_with fail
      refine (live_s _ (HO.out.below HB.out)).mono ?_
      rintro e wc1 ⟨rfl, hb⟩
      have HB := Lib.hid (HB.out.trans (hb.mono HB.out.size))
      have HK := Lib.hid (HK.out.below hb)
      clear hb
      go_wp2_with fail
      go_ret
      exact ⟨rfl, HB.out⟩
    · have d1 : ¬ (300 : Int) < (id.size : Int) := by omega
      have d1' : decide ((300 : Int) < (id.size : Int)) = false := decide_eq_false d1
      by_cases h2 : 300 < sec.size
      · have HG := Lib.hid hg
        have d2 : (300 : Int) < (sec.size : Int) := by omega
        clear hg hl h1 h2
        go_enter Tryz.func6, Tryz.ntmps6
        go_wp2_with fail
        refine (great_k l ll.length lc ll 15 false _ HK.out HG.out).mono ?_
        rintro e w' ⟨rfl, rfl⟩
        go_wp2_with fail
        refine (live_s _ (HO.out.below HB.out)).mono ?_
        rintro e wc2 ⟨rfl, hb⟩
        have HB := Lib.hid (HB.out.trans (hb.mono HB.out.size))
        have HK := Lib.hid (HK.out.below hb)
        clear hb
        go_wp2_with fail
        go_ret
        exact ⟨rfl, HB.out⟩
      · have d2 : ¬ (300 : Int) < (sec.size : Int) := by omega
        have d2' : decide ((300 : Int) < (sec.size : Int)) = false := decide_eq_false d2
        have HS := Lib.hid (sm_of hg)
        have hn15 := (great_no hg).1
        obtain ⟨⟨m, z⟩, hz⟩ : ∃ p, rotK ll id sec now life grace = p := ⟨_, rfl⟩
        have HG := Lib.hid hg
        have hi : id.size ≤ 1000000000 := by omega
        have hc : sec.size ≤ 1000000000 := by omega
        clear hg hl h1 h2
        cases qz : (z != 0)
        · have hz0 : z = 0 := by simpa using qz
          subst hz0
          have HZ := Lib.hid hz
          have HCm := Lib.hid (rot_chk hz)
          have HLm := Lib.hid (show m.length = ll.length + 1 by rw [(rot_ok hz).2.2.2.2, List.length_append, List.length_map]; rfl)
          have HSm := Lib.hid (show ∀ k ∈ m, SmK k from fun k hk => by
            rw [(rot_ok hz).2.2.2.2] at hk
            rcases List.mem_append.1 hk with h | h
            · obtain ⟨q, hq, rfl⟩ := List.mem_map.1 h
              exact ⟨(HS.out q hq).1, (HS.out q hq).2⟩
            · rw [List.mem_singleton.1 h]; exact ⟨hi, hc⟩)
          obtain ⟨x, hx⟩ : ∃ x, limI tt = x := ⟨_, rfl⟩
          obtain ⟨y, hy⟩ : ∃ y, limI now = y := ⟨_, rfl⟩
          obtain ⟨a, ha⟩ : ∃ a, addI now life = a := ⟨_, rfl⟩
          have HX := Lib.hid hx
          have HY := Lib.hid hy
          have HA := Lib.hid ha
          clear qz
          by_cases h3 : y ≤ x
          · by_cases h4 : x < a
            · have hsg := rot_sign hz (show limI now ≤ limI tt by omega) (show limI tt < addI now life by omega)
              have HSg := Lib.hid hsg
              have dx1 : decide (y ≤ x) = true := decide_eq_true h3
              have dx2 : decide (x < a) = true := decide_eq_true h4
              have e1 := bne_s id
              have e2 := bne_s sec
              obtain ⟨f0, hf0⟩ : ∃ q, addI now 0 = q := ⟨_, rfl⟩
              obtain ⟨f1, hf1⟩ : ∃ q, addI a grace = q := ⟨_, rfl⟩
              have HSg := Lib.hid (show sgnK m tt = some ⟨id, sec, f0, a, f0, f1⟩ by have := HSg.out; unfold newK at this; rw [hf0, ha, hf1] at this; exact this)
              clear hz hx hy ha hsg hf0 hf1
              go_enter Tryz.func6, Tryz.ntmps6
              go_wp2_with fail
              refine (great_k l ll.length lc ll 15 false _ HK.out HG.out).mono ?_
              rintro e w' ⟨rfl, rfl⟩
              go_wp2_with fail
              refine (rotate_q l ll.length lc ll m id sec now life grace 0 (ll.length + 1) _ HK.out HS.out hi hc HZ.out HLm.out).mono ?_
              rintro e wc3 ⟨mo, mc, rfl, hm, hb⟩
              have HB := Lib.hid (HB.out.trans (hb.mono HB.out.size))
              have HK := Lib.hid (HK.out.below hb)
              have HM := Lib.hid hm
              have hm1 := hm.2.1
              have hm2 := hm.2.2.1
              unfold maxLen at hm2
              clear hm
              clear hb
              go_wp2_with fail
              refine (check_k mo (ll.length + 1) mc m 0 _ HM.out HSm.out HCm.out).mono ?_
              rintro e wc4 ⟨rfl, hb⟩
              have HB := Lib.hid (HB.out.trans (hb.mono HB.out.size))
              have HK := Lib.hid (HK.out.below hb)
              have HM := Lib.hid (HM.out.below hb)
              clear hb
              go_wp2_with fail
              refine (live_s _ (HO.out.below HB.out)).mono ?_
              rintro e wc5 ⟨rfl, hb⟩
              have HB := Lib.hid (HB.out.trans (hb.mono HB.out.size))
              have HK := Lib.hid (HK.out.below hb)
              have HM := Lib.hid (HM.out.below hb)
              clear hb
              go_wp2_with fail
              refine (signing_q mo (ll.length + 1) mc m tt (some ⟨id, sec, f0, a, f0, f1⟩) ⟨id, sec, f0, a, f0, f1⟩ true _ HM.out HSm.out HSg.out rfl rfl).mono ?_
              rintro e wc6 ⟨rfl, hb⟩
              have HB := Lib.hid (HB.out.trans (hb.mono HB.out.size))
              have HK := Lib.hid (HK.out.below hb)
              have HM := Lib.hid (HM.out.below hb)
              clear hb
              have H1 : Hid (KbC (wc6.alloc (.cells #[.string id, .string sec, .int .i64 f0, .int .i64 a, .int .i64 f0, .int .i64 f1] 31)) wc6.heap.size (.cells #[.string id, .string sec, .int .i64 f0, .int .i64 a, .int .i64 f0, .int .i64 f1] 31)) := Lib.hid (kbc_new wc6 _)
              have hb := box_below wc6 (.cells #[.string id, .string sec, .int .i64 f0, .int .i64 a, .int .i64 f0, .int .i64 f1] 31)
              have HB := Lib.hid (HB.out.trans (hb.mono HB.out.size))
              have HK := Lib.hid (HK.out.below hb)
              have HM := Lib.hid (HM.out.below hb)
              clear hb
              unfold kV kcells
              go_wp2_with fail
              refine (inst_k tt x _ HX.out).mono ?_
              rintro e w' ⟨rfl, rfl⟩
              go_wp2_with fail
              refine (inst_k now y _ HY.out).mono ?_
              rintro e w' ⟨rfl, rfl⟩
              go_wp2_with fail
              refine (add_k now life a _ HA.out).mono ?_
              rintro e w' ⟨rfl, rfl⟩
              have b0 := H1.out.cell (i := 0) (v := .string id) rfl
              have b1 := H1.out.cell (i := 1) (v := .string sec) rfl
              have b2 := H1.out.cell (i := 2) (v := .int .i64 f0) rfl
              have b3 := H1.out.cell (i := 3) (v := .int .i64 a) rfl
              have b4 := H1.out.cell (i := 4) (v := .int .i64 f0) rfl
              have b5 := H1.out.cell (i := 5) (v := .int .i64 f1) rfl
              go_wp2_with fail
              clear b0 b1 b2 b3 b4 b5
              go_loopw [110] (fun iv wr => ∃ k : Nat, k ≤ ll.length ∧ iv = .int .i64 k ∧ Hid (KsAt wr l ll.length lc ll) ∧ Hid (KsAt wr mo (ll.length + 1) mc m) ∧ Hid (Below w.heap.size w wr)) (fun iv _ => ll.length - (intOf iv).toNat)
              case atStart => exact ⟨0, Nat.zero_le _, rfl, HK, HM, HB⟩
              case round =>
                clear HK HM HB
                obtain ⟨k, hk, rfl, HK, HM, HB⟩ := hrel
                by_cases hlt : k < ll.length
                · obtain ⟨lb, lo, rfl, hsl⟩ := HK.out.2.2.2.1 (by omega)
                  have c0 := (hsl.at_ hlt).c0
                  obtain ⟨g, hgk⟩ : ∃ g, kA ll k = g := ⟨_, rfl⟩
                  have hmem : g ∈ ll := by rw [← hgk]; exact k_mem hlt
                  rw [hgk] at c0
                  have hra := rot_acc (t := tt) (s := skew) HZ.out hmem
                  obtain ⟨⟨⟨ai, as', asf, asu, aaf, aau⟩, f⟩, hac⟩ : ∃ p, accK ll g.id tt skew = p := ⟨_, rfl⟩
                  obtain ⟨⟨⟨bi, bs, bsf, bsu, baf, bau⟩, f2⟩, hac2⟩ : ∃ p, accK m g.id tt skew = p := ⟨_, rfl⟩
                  rw [hac, hac2] at hra
                  obtain ⟨r1, r2, r3, r4⟩ := hra
                  dsimp only at r1 r2 r3 r4
                  subst r1 r2 r3 r4
                  have HA1 := Lib.hid hac
                  have HA2 := Lib.hid hac2
                  have HGk := Lib.hid hgk
                  have q1 := bne_i f
                  have q2 := bne_s as'
                  clear hsl hgk hmem hac hac2
                  go_wp2_with fail
                  clear c0
                  refine (accepting_k (some ⟨lb, lo, none⟩) ll.length lc ll g.id tt skew f ⟨ai, as', asf, asu, aaf, aau⟩ _ HK.out HA1.out).mono ?_
                  rintro e wc7 ⟨rfl, hb⟩
                  have HB := Lib.hid (HB.out.trans (hb.mono HB.out.size))
                  have HK := Lib.hid (HK.out.below hb)
                  have HM := Lib.hid (HM.out.below hb)
                  clear hb
                  have HX1 : Hid (KbC (wc7.alloc (.cells #[.string ai, .string as', .int .i64 asf, .int .i64 asu, .int .i64 aaf, .int .i64 aau] 31)) wc7.heap.size (.cells #[.string ai, .string as', .int .i64 asf, .int .i64 asu, .int .i64 aaf, .int .i64 aau] 31)) := Lib.hid (kbc_new wc7 _)
                  have hb := box_below wc7 (.cells #[.string ai, .string as', .int .i64 asf, .int .i64 asu, .int .i64 aaf, .int .i64 aau] 31)
                  have HB := Lib.hid (HB.out.trans (hb.mono HB.out.size))
                  have HK := Lib.hid (HK.out.below hb)
                  have HM := Lib.hid (HM.out.below hb)
                  clear hb
                  unfold kV kcells
                  obtain ⟨kb9, ko9, ke9, hsl⟩ := HK.out.2.2.2.1 (by omega)
                  cases ke9
                  have c0 := (hsl.at_ hlt).c0
                  rw [HGk.out] at c0
                  clear hsl
                  go_wp2_with fail
                  clear c0
                  refine (accepting_k mo (ll.length + 1) mc m g.id tt skew f ⟨bi, as', bsf, bsu, aaf, aau⟩ _ HM.out HA2.out).mono ?_
                  rintro e wc8 ⟨rfl, hb⟩
                  have HB := Lib.hid (HB.out.trans (hb.mono HB.out.size))
                  have HK := Lib.hid (HK.out.below hb)
                  have HM := Lib.hid (HM.out.below hb)
                  have HX1 := Lib.hid (HX1.out.step hb)
                  clear hb
                  have HX2 : Hid (KbC (wc8.alloc (.cells #[.string bi, .string as', .int .i64 bsf, .int .i64 bsu, .int .i64 aaf, .int .i64 aau] 31)) wc8.heap.size (.cells #[.string bi, .string as', .int .i64 bsf, .int .i64 bsu, .int .i64 aaf, .int .i64 aau] 31)) := Lib.hid (kbc_new wc8 _)
                  have hb := box_below wc8 (.cells #[.string bi, .string as', .int .i64 bsf, .int .i64 bsu, .int .i64 aaf, .int .i64 aau] 31)
                  have HB := Lib.hid (HB.out.trans (hb.mono HB.out.size))
                  have HK := Lib.hid (HK.out.below hb)
                  have HM := Lib.hid (HM.out.below hb)
                  have HX1 := Lib.hid (HX1.out.step hb)
                  clear hb
                  unfold kV kcells
                  have u0 := HX1.out.cell (i := 0) (v := .string ai) rfl
                  have u1 := HX1.out.cell (i := 1) (v := .string as') rfl
                  have u2 := HX1.out.cell (i := 2) (v := .int .i64 asf) rfl
                  have u3 := HX1.out.cell (i := 3) (v := .int .i64 asu) rfl
                  have u4 := HX1.out.cell (i := 4) (v := .int .i64 aaf) rfl
                  have u5 := HX1.out.cell (i := 5) (v := .int .i64 aau) rfl
                  have v0 := HX2.out.cell (i := 0) (v := .string bi) rfl
                  have v1 := HX2.out.cell (i := 1) (v := .string as') rfl
                  have v2 := HX2.out.cell (i := 2) (v := .int .i64 bsf) rfl
                  have v3 := HX2.out.cell (i := 3) (v := .int .i64 bsu) rfl
                  have v4 := HX2.out.cell (i := 4) (v := .int .i64 aaf) rfl
                  have v5 := HX2.out.cell (i := 5) (v := .int .i64 aau) rfl
                  go_wp2_with fail
                  clear u0 u1 u2 u3 u4 u5 v0 v1 v2 v3 v4 v5
                  go_roundw
                  case rel => exact ⟨k + 1, by omega, by go_num, HK, HM, HB⟩
                  case measure => simp [intOf]; omega
                · obtain rfl : k = ll.length := by omega
                  go_wp2_with fail
                  go_ret
                  exact ⟨rfl, HB.out⟩
            · have dx1 : decide (y ≤ x) = true := decide_eq_true h3
              have dx2 : decide (x < a) = false := decide_eq_false h4
              obtain ⟨o, ho⟩ : ∃ o, sgnK m tt = o := ⟨_, rfl⟩
              obtain ⟨⟨fi, fs, fsf, fsu, faf, fau⟩, hf⟩ : ∃ g, o.getD kZ = g := ⟨_, rfl⟩
              obtain ⟨b, hb⟩ : ∃ b, o.isSome = b := ⟨_, rfl⟩
              have HSg := Lib.hid ho
              have HF := Lib.hid hf
              have HBs := Lib.hid hb
              clear hz hx hy ha ho hf hb
              go_enter Tryz.func6, Tryz.ntmps6
              go_wp2_with fail
              refine (great_k l ll.length lc ll 15 false _ HK.out HG.out).mono ?_
              rintro e w' ⟨rfl, rfl⟩
              go_wp2_with fail
              refine (rotate_q l ll.length lc ll m id sec now life grace 0 (ll.length + 1) _ HK.out HS.out hi hc HZ.out HLm.out).mono ?_
              rintro e wc9 ⟨mo, mc, rfl, hm, hb⟩
              have HB := Lib.hid (HB.out.trans (hb.mono HB.out.size))
              have HK := Lib.hid (HK.out.below hb)
              have HM := Lib.hid hm
              have hm1 := hm.2.1
              have hm2 := hm.2.2.1
              unfold maxLen at hm2
              clear hm
              clear hb
              go_wp2_with fail
              refine (check_k mo (ll.length + 1) mc m 0 _ HM.out HSm.out HCm.out).mono ?_
              rintro e wc10 ⟨rfl, hb⟩
              have HB := Lib.hid (HB.out.trans (hb.mono HB.out.size))
              have HK := Lib.hid (HK.out.below hb)
              have HM := Lib.hid (HM.out.below hb)
              clear hb
              go_wp2_with fail
              refine (live_s _ (HO.out.below HB.out)).mono ?_
              rintro e wc11 ⟨rfl, hb⟩
              have HB := Lib.hid (HB.out.trans (hb.mono HB.out.size))
              have HK := Lib.hid (HK.out.below hb)
              have HM := Lib.hid (HM.out.below hb)
              clear hb
              go_wp2_with fail
              refine (signing_q mo (ll.length + 1) mc m tt o ⟨fi, fs, fsf, fsu, faf, fau⟩ b _ HM.out HSm.out HSg.out HF.out HBs.out).mono ?_
              rintro e wc12 ⟨rfl, hb⟩
              have HB := Lib.hid (HB.out.trans (hb.mono HB.out.size))
              have HK := Lib.hid (HK.out.below hb)
              have HM := Lib.hid (HM.out.below hb)
              clear hb
              have H1 : Hid (KbC (wc12.alloc (.cells #[.string fi, .string fs, .int .i64 fsf, .int .i64 fsu, .int .i64 faf, .int .i64 fau] 31)) wc12.heap.size (.cells #[.string fi, .string fs, .int .i64 fsf, .int .i64 fsu, .int .i64 faf, .int .i64 fau] 31)) := Lib.hid (kbc_new wc12 _)
              have hb := box_below wc12 (.cells #[.string fi, .string fs, .int .i64 fsf, .int .i64 fsu, .int .i64 faf, .int .i64 fau] 31)
              have HB := Lib.hid (HB.out.trans (hb.mono HB.out.size))
              have HK := Lib.hid (HK.out.below hb)
              have HM := Lib.hid (HM.out.below hb)
              clear hb
              unfold kV kcells
              go_wp2_with fail
              refine (inst_k tt x _ HX.out).mono ?_
              rintro e w' ⟨rfl, rfl⟩
              go_wp2_with fail
              refine (inst_k now y _ HY.out).mono ?_
              rintro e w' ⟨rfl, rfl⟩
              go_wp2_with fail
              refine (add_k now life a _ HA.out).mono ?_
              rintro e w' ⟨rfl, rfl⟩
              go_wp2_with fail
              go_loopw [110] (fun iv wr => ∃ k : Nat, k ≤ ll.length ∧ iv = .int .i64 k ∧ Hid (KsAt wr l ll.length lc ll) ∧ Hid (KsAt wr mo (ll.length + 1) mc m) ∧ Hid (Below w.heap.size w wr)) (fun iv _ => ll.length - (intOf iv).toNat)
              case atStart => exact ⟨0, Nat.zero_le _, rfl, HK, HM, HB⟩
              case round =>
                clear HK HM HB
                obtain ⟨k, hk, rfl, HK, HM, HB⟩ := hrel
                by_cases hlt : k < ll.length
                · obtain ⟨lb, lo, rfl, hsl⟩ := HK.out.2.2.2.1 (by omega)
                  have c0 := (hsl.at_ hlt).c0
                  obtain ⟨g, hgk⟩ : ∃ g, kA ll k = g := ⟨_, rfl⟩
                  have hmem : g ∈ ll := by rw [← hgk]; exact k_mem hlt
                  rw [hgk] at c0
                  have hra := rot_acc (t := tt) (s := skew) HZ.out hmem
                  obtain ⟨⟨⟨ai, as', asf, asu, aaf, aau⟩, f⟩, hac⟩ : ∃ p, accK ll g.id tt skew = p := ⟨_, rfl⟩
                  obtain ⟨⟨⟨bi, bs, bsf, bsu, baf, bau⟩, f2⟩, hac2⟩ : ∃ p, accK m g.id tt skew = p := ⟨_, rfl⟩
                  rw [hac, hac2] at hra
                  obtain ⟨r1, r2, r3, r4⟩ := hra
                  dsimp only at r1 r2 r3 r4
                  subst r1 r2 r3 r4
                  have HA1 := Lib.hid hac
                  have HA2 := Lib.hid hac2
                  have HGk := Lib.hid hgk
                  have q1 := bne_i f
                  have q2 := bne_s as'
                  clear hsl hgk hmem hac hac2
                  go_wp2_with fail
                  clear c0
                  refine (accepting_k (some ⟨lb, lo, none⟩) ll.length lc ll g.id tt skew f ⟨ai, as', asf, asu, aaf, aau⟩ _ HK.out HA1.out).mono ?_
                  rintro e wc13 ⟨rfl, hb⟩
                  have HB := Lib.hid (HB.out.trans (hb.mono HB.out.size))
                  have HK := Lib.hid (HK.out.below hb)
                  have HM := Lib.hid (HM.out.below hb)
                  clear hb
                  have HX1 : Hid (KbC (wc13.alloc (.cells #[.string ai, .string as', .int .i64 asf, .int .i64 asu, .int .i64 aaf, .int .i64 aau] 31)) wc13.heap.size (.cells #[.string ai, .string as', .int .i64 asf, .int .i64 asu, .int .i64 aaf, .int .i64 aau] 31)) := Lib.hid (kbc_new wc13 _)
                  have hb := box_below wc13 (.cells #[.string ai, .string as', .int .i64 asf, .int .i64 asu, .int .i64 aaf, .int .i64 aau] 31)
                  have HB := Lib.hid (HB.out.trans (hb.mono HB.out.size))
                  have HK := Lib.hid (HK.out.below hb)
                  have HM := Lib.hid (HM.out.below hb)
                  clear hb
                  unfold kV kcells
                  obtain ⟨kb9, ko9, ke9, hsl⟩ := HK.out.2.2.2.1 (by omega)
                  cases ke9
                  have c0 := (hsl.at_ hlt).c0
                  rw [HGk.out] at c0
                  clear hsl
                  go_wp2_with fail
                  clear c0
                  refine (accepting_k mo (ll.length + 1) mc m g.id tt skew f ⟨bi, as', bsf, bsu, aaf, aau⟩ _ HM.out HA2.out).mono ?_
                  rintro e wc14 ⟨rfl, hb⟩
                  have HB := Lib.hid (HB.out.trans (hb.mono HB.out.size))
                  have HK := Lib.hid (HK.out.below hb)
                  have HM := Lib.hid (HM.out.below hb)
                  have HX1 := Lib.hid (HX1.out.step hb)
                  clear hb
                  have HX2 : Hid (KbC (wc14.alloc (.cells #[.string bi, .string as', .int .i64 bsf, .int .i64 bsu, .int .i64 aaf, .int .i64 aau] 31)) wc14.heap.size (.cells #[.string bi, .string as', .int .i64 bsf, .int .i64 bsu, .int .i64 aaf, .int .i64 aau] 31)) := Lib.hid (kbc_new wc14 _)
                  have hb := box_below wc14 (.cells #[.string bi, .string as', .int .i64 bsf, .int .i64 bsu, .int .i64 aaf, .int .i64 aau] 31)
                  have HB := Lib.hid (HB.out.trans (hb.mono HB.out.size))
                  have HK := Lib.hid (HK.out.below hb)
                  have HM := Lib.hid (HM.out.below hb)
                  have HX1 := Lib.hid (HX1.out.step hb)
                  clear hb
                  unfold kV kcells
                  have u0 := HX1.out.cell (i := 0) (v := .string ai) rfl
                  have u1 := HX1.out.cell (i := 1) (v := .string as') rfl
                  have u2 := HX1.out.cell (i := 2) (v := .int .i64 asf) rfl
                  have u3 := HX1.out.cell (i := 3) (v := .int .i64 asu) rfl
                  have u4 := HX1.out.cell (i := 4) (v := .int .i64 aaf) rfl
                  have u5 := HX1.out.cell (i := 5) (v := .int .i64 aau) rfl
                  have v0 := HX2.out.cell (i := 0) (v := .string bi) rfl
                  have v1 := HX2.out.cell (i := 1) (v := .string as') rfl
                  have v2 := HX2.out.cell (i := 2) (v := .int .i64 bsf) rfl
                  have v3 := HX2.out.cell (i := 3) (v := .int .i64 bsu) rfl
                  have v4 := HX2.out.cell (i := 4) (v := .int .i64 aaf) rfl
                  have v5 := HX2.out.cell (i := 5) (v := .int .i64 aau) rfl
                  go_wp2_with fail
                  clear u0 u1 u2 u3 u4 u5 v0 v1 v2 v3 v4 v5
                  go_roundw
                  case rel => exact ⟨k + 1, by omega, by go_num, HK, HM, HB⟩
                  case measure => simp [intOf]; omega
                · obtain rfl : k = ll.length := by omega
                  go_wp2_with fail
                  go_ret
                  exact ⟨rfl, HB.out⟩
          · have dx1 : decide (y ≤ x) = false := decide_eq_false h3
            obtain ⟨o, ho⟩ : ∃ o, sgnK m tt = o := ⟨_, rfl⟩
            obtain ⟨⟨fi, fs, fsf, fsu, faf, fau⟩, hf⟩ : ∃ g, o.getD kZ = g := ⟨_, rfl⟩
            obtain ⟨b, hb⟩ : ∃ b, o.isSome = b := ⟨_, rfl⟩
            have HSg := Lib.hid ho
            have HF := Lib.hid hf
            have HBs := Lib.hid hb
            clear hz hx hy ha ho hf hb
            go_enter Tryz.func6, Tryz.ntmps6
            go_wp2_with fail
            refine (great_k l ll.length lc ll 15 false _ HK.out HG.out).mono ?_
            rintro e w' ⟨rfl, rfl⟩
            go_wp2_with fail
            refine (rotate_q l ll.length lc ll m id sec now life grace 0 (ll.length + 1) _ HK.out HS.out hi hc HZ.out HLm.out).mono ?_
            rintro e wc15 ⟨mo, mc, rfl, hm, hb⟩
            have HB := Lib.hid (HB.out.trans (hb.mono HB.out.size))
            have HK := Lib.hid (HK.out.below hb)
            have HM := Lib.hid hm
            have hm1 := hm.2.1
            have hm2 := hm.2.2.1
            unfold maxLen at hm2
            clear hm
            clear hb
            go_wp2_with fail
            refine (check_k mo (ll.length + 1) mc m 0 _ HM.out HSm.out HCm.out).mono ?_
            rintro e wc16 ⟨rfl, hb⟩
            have HB := Lib.hid (HB.out.trans (hb.mono HB.out.size))
            have HK := Lib.hid (HK.out.below hb)
            have HM := Lib.hid (HM.out.below hb)
            clear hb
            go_wp2_with fail
            refine (live_s _ (HO.out.below HB.out)).mono ?_
            rintro e wc17 ⟨rfl, hb⟩
            have HB := Lib.hid (HB.out.trans (hb.mono HB.out.size))
            have HK := Lib.hid (HK.out.below hb)
            have HM := Lib.hid (HM.out.below hb)
            clear hb
            go_wp2_with fail
            refine (signing_q mo (ll.length + 1) mc m tt o ⟨fi, fs, fsf, fsu, faf, fau⟩ b _ HM.out HSm.out HSg.out HF.out HBs.out).mono ?_
            rintro e wc18 ⟨rfl, hb⟩
            have HB := Lib.hid (HB.out.trans (hb.mono HB.out.size))
            have HK := Lib.hid (HK.out.below hb)
            have HM := Lib.hid (HM.out.below hb)
            clear hb
            have H1 : Hid (KbC (wc18.alloc (.cells #[.string fi, .string fs, .int .i64 fsf, .int .i64 fsu, .int .i64 faf, .int .i64 fau] 31)) wc18.heap.size (.cells #[.string fi, .string fs, .int .i64 fsf, .int .i64 fsu, .int .i64 faf, .int .i64 fau] 31)) := Lib.hid (kbc_new wc18 _)
            have hb := box_below wc18 (.cells #[.string fi, .string fs, .int .i64 fsf, .int .i64 fsu, .int .i64 faf, .int .i64 fau] 31)
            have HB := Lib.hid (HB.out.trans (hb.mono HB.out.size))
            have HK := Lib.hid (HK.out.below hb)
            have HM := Lib.hid (HM.out.below hb)
            clear hb
            unfold kV kcells
            go_wp2_with fail
            refine (inst_k tt x _ HX.out).mono ?_
            rintro e w' ⟨rfl, rfl⟩
            go_wp2_with fail
            refine (inst_k now y _ HY.out).mono ?_
            rintro e w' ⟨rfl, rfl⟩
            go_wp2_with fail
            go_loopw [110] (fun iv wr => ∃ k : Nat, k ≤ ll.length ∧ iv = .int .i64 k ∧ Hid (KsAt wr l ll.length lc ll) ∧ Hid (KsAt wr mo (ll.length + 1) mc m) ∧ Hid (Below w.heap.size w wr)) (fun iv _ => ll.length - (intOf iv).toNat)
            case atStart => exact ⟨0, Nat.zero_le _, rfl, HK, HM, HB⟩
            case round =>
              clear HK HM HB
              obtain ⟨k, hk, rfl, HK, HM, HB⟩ := hrel
              by_cases hlt : k < ll.length
              · obtain ⟨lb, lo, rfl, hsl⟩ := HK.out.2.2.2.1 (by omega)
                have c0 := (hsl.at_ hlt).c0
                obtain ⟨g, hgk⟩ : ∃ g, kA ll k = g := ⟨_, rfl⟩
                have hmem : g ∈ ll := by rw [← hgk]; exact k_mem hlt
                rw [hgk] at c0
                have hra := rot_acc (t := tt) (s := skew) HZ.out hmem
                obtain ⟨⟨⟨ai, as', asf, asu, aaf, aau⟩, f⟩, hac⟩ : ∃ p, accK ll g.id tt skew = p := ⟨_, rfl⟩
                obtain ⟨⟨⟨bi, bs, bsf, bsu, baf, bau⟩, f2⟩, hac2⟩ : ∃ p, accK m g.id tt skew = p := ⟨_, rfl⟩
                rw [hac, hac2] at hra
                obtain ⟨r1, r2, r3, r4⟩ := hra
                dsimp only at r1 r2 r3 r4
                subst r1 r2 r3 r4
                have HA1 := Lib.hid hac
                have HA2 := Lib.hid hac2
                have HGk := Lib.hid hgk
                have q1 := bne_i f
                have q2 := bne_s as'
                clear hsl hgk hmem hac hac2
                go_wp2_with fail
                clear c0
                refine (accepting_k (some ⟨lb, lo, none⟩) ll.length lc ll g.id tt skew f ⟨ai, as', asf, asu, aaf, aau⟩ _ HK.out HA1.out).mono ?_
                rintro e wc19 ⟨rfl, hb⟩
                have HB := Lib.hid (HB.out.trans (hb.mono HB.out.size))
                have HK := Lib.hid (HK.out.below hb)
                have HM := Lib.hid (HM.out.below hb)
                clear hb
                have HX1 : Hid (KbC (wc19.alloc (.cells #[.string ai, .string as', .int .i64 asf, .int .i64 asu, .int .i64 aaf, .int .i64 aau] 31)) wc19.heap.size (.cells #[.string ai, .string as', .int .i64 asf, .int .i64 asu, .int .i64 aaf, .int .i64 aau] 31)) := Lib.hid (kbc_new wc19 _)
                have hb := box_below wc19 (.cells #[.string ai, .string as', .int .i64 asf, .int .i64 asu, .int .i64 aaf, .int .i64 aau] 31)
                have HB := Lib.hid (HB.out.trans (hb.mono HB.out.size))
                have HK := Lib.hid (HK.out.below hb)
                have HM := Lib.hid (HM.out.below hb)
                clear hb
                unfold kV kcells
                obtain ⟨kb9, ko9, ke9, hsl⟩ := HK.out.2.2.2.1 (by omega)
                cases ke9
                have c0 := (hsl.at_ hlt).c0
                rw [HGk.out] at c0
                clear hsl
                go_wp2_with fail
                clear c0
                refine (accepting_k mo (ll.length + 1) mc m g.id tt skew f ⟨bi, as', bsf, bsu, aaf, aau⟩ _ HM.out HA2.out).mono ?_
                rintro e wc20 ⟨rfl, hb⟩
                have HB := Lib.hid (HB.out.trans (hb.mono HB.out.size))
                have HK := Lib.hid (HK.out.below hb)
                have HM := Lib.hid (HM.out.below hb)
                have HX1 := Lib.hid (HX1.out.step hb)
                clear hb
                have HX2 : Hid (KbC (wc20.alloc (.cells #[.string bi, .string as', .int .i64 bsf, .int .i64 bsu, .int .i64 aaf, .int .i64 aau] 31)) wc20.heap.size (.cells #[.string bi, .string as', .int .i64 bsf, .int .i64 bsu, .int .i64 aaf, .int .i64 aau] 31)) := Lib.hid (kbc_new wc20 _)
                have hb := box_below wc20 (.cells #[.string bi, .string as', .int .i64 bsf, .int .i64 bsu, .int .i64 aaf, .int .i64 aau] 31)
                have HB := Lib.hid (HB.out.trans (hb.mono HB.out.size))
                have HK := Lib.hid (HK.out.below hb)
                have HM := Lib.hid (HM.out.below hb)
                have HX1 := Lib.hid (HX1.out.step hb)
                clear hb
                unfold kV kcells
                have u0 := HX1.out.cell (i := 0) (v := .string ai) rfl
                have u1 := HX1.out.cell (i := 1) (v := .string as') rfl
                have u2 := HX1.out.cell (i := 2) (v := .int .i64 asf) rfl
                have u3 := HX1.out.cell (i := 3) (v := .int .i64 asu) rfl
                have u4 := HX1.out.cell (i := 4) (v := .int .i64 aaf) rfl
                have u5 := HX1.out.cell (i := 5) (v := .int .i64 aau) rfl
                have v0 := HX2.out.cell (i := 0) (v := .string bi) rfl
                have v1 := HX2.out.cell (i := 1) (v := .string as') rfl
                have v2 := HX2.out.cell (i := 2) (v := .int .i64 bsf) rfl
                have v3 := HX2.out.cell (i := 3) (v := .int .i64 bsu) rfl
                have v4 := HX2.out.cell (i := 4) (v := .int .i64 aaf) rfl
                have v5 := HX2.out.cell (i := 5) (v := .int .i64 aau) rfl
                go_wp2_with fail
                clear u0 u1 u2 u3 u4 u5 v0 v1 v2 v3 v4 v5
                go_roundw
                case rel => exact ⟨k + 1, by omega, by go_num, HK, HM, HB⟩
                case measure => simp [intOf]; omega
              · obtain rfl : k = ll.length := by omega
                go_wp2_with fail
                go_ret
                exact ⟨rfl, HB.out⟩
        · have hzn : z ≠ 0 := by simpa using qz
          have hmn := rot_err hz hzn
          subst hmn
          have HZ := Lib.hid hz
          clear hz hzn
          go_enter Tryz.func6, Tryz.ntmps6
          go_wp2_with fail
          refine (great_k l ll.length lc ll 15 false _ HK.out HG.out).mono ?_
          rintro e w' ⟨rfl, rfl⟩
          go_wp2_with fail
          refine (rotate_q l ll.length lc ll [] id sec now life grace z 0 _ HK.out HS.out hi hc HZ.out rfl).mono ?_
          rintro e wc21 ⟨mo, mc, rfl, hm, hb⟩
          have HB := Lib.hid (HB.out.trans (hb.mono HB.out.size))
          have HK := Lib.hid (HK.out.below hb)
          have hm2 := hm.2.2.1
          unfold maxLen at hm2
          clear hm
          clear hb
          go_wp2_with fail
          refine (live_s _ (HO.out.below HB.out)).mono ?_
          rintro e wc22 ⟨rfl, hb⟩
          have HB := Lib.hid (HB.out.trans (hb.mono HB.out.size))
          have HK := Lib.hid (HK.out.below hb)
          clear hb
          go_wp2_with fail
          go_ret
          exact ⟨rfl, HB.out⟩
  · have HG := Lib.hid hg
    clear hg hl
    go_enter Tryz.func6, Tryz.ntmps6
    go_wp2_with fail
    refine (great_k l ll.length lc ll 15 true _ HK.out HG.out).mono ?_
    rintro e w' ⟨rfl, rfl⟩
    go_wp2_with fail
    refine (live_s _ (HO.out.below HB.out)).mono ?_
    rintro e wc23 ⟨rfl, hb⟩
    have HB := Lib.hid (HB.out.trans (hb.mono HB.out.size))
    have HK := Lib.hid (HK.out.below hb)
    clear hb
    go_wp2_with fail
    go_ret
    exact ⟨rfl, HB.out⟩

theorem kfollows_types : ∀ t ∈ [22, 9, 9, 3, 3, 3, 3, 3], Tryz.prog.readableRec t = true ∧ t < Tryz.prog.types.size := by
  have h : ([22, 9, 9, 3, 3, 3, 3, 3].all fun t => Tryz.prog.readableRec t && decide (t < Tryz.prog.types.size)) = true := by kernel_rfl
  intro t ht
  have := List.all_eq_true.1 h t ht
  simpa using this

set_option maxRecDepth 100000 in
theorem kfollows_contract (H : Type) (enc : TypeId × Value → H) (W : World) (base : Nat) (args : Array Value) (ds gs : List (DataW H)) (before : List MemPlace)
    (hval : ∀ (j : Nat) t v, Tryz.f6.params[j]? = some t → args[j]? = some v → Value.okWide Tryz.prog W .any base t v)
    (hW : DataW.Whole enc Tryz.prog Tryz.f6.params.toList Rows.keysFollowsSpec.vars false W args.toList ds gs before) (hL : laidMetH Tryz.prog Rows.keysFollowsRow.laid W) (hsh : W.ShapedOpen Tryz.prog) :
    Calls Tryz.prog 6 args W fun e W' => ∃ v, e = .returned v ∧ Rows.keysFollowsSpec.post enc Tryz.prog Tryz.f6 false true false false W args v W' := by
  have hW' := hW
  obtain ⟨p, q, hA0, hV, rfl, hfz, hnd⟩ := hW
  have hA : DataW.TrodAll enc Tryz.prog W 0 (fun _ => true) true Tryz.f6.params.toList args.toList ds p := hA0
  obtain ⟨rfl, rfl⟩ := trodVars_none hV
  simp only [List.append_nil] at hW'
  have hlt : ∀ x ∈ p, x.block < W.heap.size := fun x hx => by simpa using hW'.lt x hx
  have fin : ∀ W', Below W.heap.size W W' → DataW.TrodAll enc Tryz.prog W' 0 (fun b => decide (b < W.heap.size)) true [22, 9, 9, 3, 3, 3, 3, 3] args.toList ds p := fun W' hb => by
    rw [Tryz.params6] at hA
    exact trodAll_below hb _ _ _ _ kfollows_types hA hlt
  clear hA0
  rw [Tryz.params6] at hA hval
  obtain ⟨v0, vs0, d0, ds0, p0, q0, hargs, rfl, hp0, h0, r0⟩ := trodAll_cons hA
  obtain ⟨v1, vs1, d1, ds1, p1, q1, rfl, rfl, hp1, h1, r1⟩ := trodAll_cons r0
  obtain ⟨v2, vs2, d2, ds2, p2, q2, rfl, rfl, hp2, h2, r2⟩ := trodAll_cons r1
  obtain ⟨v3, vs3, d3, ds3, p3, q3, rfl, rfl, hp3, h3, r3⟩ := trodAll_cons r2
  obtain ⟨v4, vs4, d4, ds4, p4, q4, rfl, rfl, hp4, h4, r4⟩ := trodAll_cons r3
  obtain ⟨v5, vs5, d5, ds5, p5, q5, rfl, rfl, hp5, h5, r5⟩ := trodAll_cons r4
  obtain ⟨v6, vs6, d6, ds6, p6, q6, rfl, rfl, hp6, h6, r6⟩ := trodAll_cons r5
  obtain ⟨v7, vs7, d7, ds7, p7, q7, rfl, rfl, hp7, h7, r7⟩ := trodAll_cons r6
  obtain ⟨rfl, rfl, rfl⟩ := trodAll_nil r7
  obtain rfl : args = #[v0, v1, v2, v3, v4, v5, v6, v7] := by cases args; simp_all
  obtain ⟨l, ln, lc, ll, rfl, hs0, hi0⟩ := open_ks (hval 0 22 v0 rfl rfl) h0
  obtain ⟨id, rfl, rfl, rfl, hs1⟩ := open_string Tryz.underlying9 (hval 1 9 v1 rfl rfl) h1
  obtain ⟨sec, rfl, rfl, rfl, hs2⟩ := open_string Tryz.underlying9 (hval 2 9 v2 rfl rfl) h2
  obtain ⟨now, rfl, rfl, rfl, hs3⟩ := open_int Tryz.underlying3 (hval 3 3 v3 rfl rfl) h3
  obtain ⟨life, rfl, rfl, rfl, hs4⟩ := open_int Tryz.underlying3 (hval 4 3 v4 rfl rfl) h4
  obtain ⟨grace, rfl, rfl, rfl, hs5⟩ := open_int Tryz.underlying3 (hval 5 3 v5 rfl rfl) h5
  obtain ⟨tt, rfl, rfl, rfl, hs6⟩ := open_int Tryz.underlying3 (hval 6 3 v6 rfl rfl) h6
  obtain ⟨skew, rfl, rfl, rfl, hs7⟩ := open_int Tryz.underlying3 (hval 7 3 v7 rfl rfl) h7
  refine (kfollows_s l ln lc ll id sec now life grace tt skew W hs0 hi0 hs3 hs4 hs5 hs6 hs7 (wk_of hL hsh)).mono fun e W' ⟨he, hb⟩ => ?_
  subst he
  exact ⟨_, rfl, _, _, _, [], p, [], hW', trodAll_mk1 (shut_bool Tryz.underlying4 _), fin W' hb, rfl, hb.frame _, fun h => by cases h⟩

set_option maxRecDepth 100000 in
theorem kfollows_lifted (os : Os) (started : os.Started) (H : Type) (enc : TypeId × Value → H) (F : Stop.Interp) :
    ReturnsInHanded {} Tryz.checked os 6 .any ((OpenSpec.ofChange Rows.keysFollowsSpec).preRow enc Tryz.prog Tryz.f6 Rows.keysFollowsRow.domain false Rows.keysFollowsRow.laid) (((OpenSpec.ofChange Rows.keysFollowsSpec).at F).post enc Tryz.prog Tryz.f6 false true false false) := by
  refine returnsInHanded_of_row (C := Tryz.checked) (s := OpenSpec.ofChange Rows.keysFollowsSpec) own started (by kernel_rfl) Tryz.func6
    (witness_row (enc := enc) (C := Tryz.checked) false (World.laidAll Tryz.prog os Rows.keysFollowsRow.laid) #[.slice none 0 0, .string ⟨#[]⟩, .string ⟨#[]⟩, .int .i64 0, .int .i64 0, .int .i64 0, .int .i64 0, .int .i64 0] (World.laidAll_os _ _ _)
      (World.shaped_of_ZipB (by kernel_rfl) (by kernel_rfl)) (by kernel_rfl)
      (OpenSpec.preRow_of_cond 8 (x := ([.nil, .lit (.string []), .lit (.string []), .lit (.int .i64 0), .lit (.int .i64 0), .lit (.int .i64 0), .lit (.int .i64 0), .lit (.int .i64 0)], [], [])) (by kernel_rfl) (by kernel_rfl) (fun k hk => by cases hk) (by kernel_rfl)
        (by rw [MakeChecks.laidMetH_plain _ _ _ (by kernel_rfl)]; exact laidMet_laidAll _ (by kernel_rfl) (by kernel_rfl)))) ?_
  intro W base args ds gs before hval hW _ _ _ hL hsh _
  exact kfollows_contract H enc W base args ds gs before hval hW hL hsh

set_option maxRecDepth 100000 in
theorem kfollows_said : Rows.KeysFollowsSaid :=
  OpenClaim.holds_of_cond 6 Tryz.f6 rfl rfl rfl rfl rfl rfl rfl ⟨rfl, rfl, rfl, rfl, rfl⟩ rfl rfl rfl rfl rfl (by kernel_rfl) Tryz.func6 (by kernel_rfl)
    (of_decide_eq_true (by kernel_rfl)) (by unfold Func.isWrapper; first | (rw [if_pos (by decide +kernel)]; kernel_rfl) | (rw [if_neg (by decide +kernel)]; exact ⟨rfl, rfl⟩))
    (fun os started H enc _ F => by rw [OpenClaim.pre_eq_preRow]; exact kfollows_lifted os started H enc F)

set_option maxRecDepth 100000 in
theorem kfollows_plain (f : FuncId) (fn : Func) (hf : Tryz.pinned.checked.prog.funcNamed "identity/identitylaw24.KeysFollows" = some f) (hfn : Tryz.pinned.checked.prog.funcs[f]? = some fn) :
    true = Tryz.pinned.checked.prog.looks [] ∧ ∀ (j : Nat) t, fn.params[j]? = some t → Tryz.pinned.checked.prog.wantsStandIn t = false := by
  obtain rfl : f = 6 := Option.some.inj ((show Tryz.prog.funcNamed "identity/identitylaw24.KeysFollows" = some 6 by kernel_rfl).symm.trans hf) |>.symm
  obtain rfl : fn = Tryz.f6 := (Option.some.inj (Tryz.func6.symm.trans hfn)).symm
  refine ⟨by kernel_rfl, fun j t ht => ?_⟩
  rw [Tryz.params6] at ht
  have hm : t ∈ [22, 9, 9, 3, 3, 3, 3, 3] := by simpa using Array.mem_of_getElem? ht
  have hall : ([22, 9, 9, 3, 3, 3, 3, 3].all fun u => !Tryz.prog.wantsStandIn u) = true := by kernel_rfl
  exact (show Tryz.prog.wantsStandIn t = false by simpa using List.all_eq_true.1 hall t hm)

/-- THE CARD -/
theorem kfollows_card : Rows.KeysFollowsCardSaid :=
  Claim7.holds_tied_plain_at .later [] _ _ _ _ kfollows_said (fun _ h => by cases h) (by kernel_rfl) (fun _ h => by cases h) keysFollows_row_tie rfl ⟨rfl, rfl⟩ (by kernel_rfl) rfl kfollows_plain (by kernel_rfl)
end Go.Proofs.YtgepcbggkfjlgaaGreatDoor
end
