/-
  Texts of the schema layer and of those beneath it, joined: EntApW, EntVn, EntWo, EntDv, ShelfM. Conditions stand at each contract.
-/
import Derived.Shelf.SlMaps.Clone
import Derived.Shelf.SlMaps.Copy
import Derived.Test.YtonfkhkalodldabGreatDoorProg
import Derived.Test.YtonfkhkalodldabGreatDoorP05
import Derived.Test.YtonfkhkalodldabGreatDoorP10
import Derived.Test.YtonfkhkalodldabGreatDoorP16
import Derived.Test.YtonfkhkalodldabGreatDoorP17
set_option linter.unusedVariables false
set_option linter.unusedSimpArgs false
set_option linter.unnecessarySimpa false

section
/-
  Contract of entry.Apply. Condition: names of at most 1100000 bytes, small attributes and modifications; the package's words as the card says.
-/
set_option maxRecDepth 100000
set_option maxRecDepth 100000
namespace Go.Proofs.YtonfkhkalodldabGreatDoor
open Go.RowKit Go.PlainAid
structure ApI (T : List Ty) (en : ByteArray) (l : List At) (ms : List Md) (w : World) (b8 : Nat) (sch : Obj) (i : Nat) (ko : Option Addr) (kn kc : Nat) (k : List At) (wr : World) : Prop where
  kS : Kb wr w.heap.size sch
  kR : Kb wr (w.heap.size + 2) (.cells #[.string ⟨#[]⟩, .slice none 0 0] 28)
  kN : Kb wr b8 (.cells #[.string en, .slice ko kn kc] 28)
  at' : AttrsAt wr ko kn kc k
  chk : chkA k = 0
  run : modsR T l ms = modsR T k (ms.drop i)
  low : Below w.heap.size w wr
  big : w.heap.size + 3 ≤ b8
theorem ApI.below {T : List Ty} {en : ByteArray} {l : List At} {ms : List Md} {w : World} {b8 : Nat} {sch : Obj} {i : Nat} {ko : Option Addr} {kn kc : Nat} {k : List At} {wr V : World} (h : ApI T en l ms w b8 sch i ko kn kc k wr) (hb : Below wr.heap.size wr V) : ApI T en l ms w b8 sch i ko kn kc k V :=
  ⟨h.kS.step hb, h.kR.step hb, h.kN.step hb, h.at'.below hb, h.chk, h.run, h.low.trans (hb.mono h.low.size), h.big⟩
theorem ApI.next {T : List Ty} {en : ByteArray} {l : List At} {ms : List Md} {w : World} {b8 : Nat} {sch : Obj} {i : Nat} {ko : Option Addr} {kn kc : Nat} {k : List At} {W : World} (h : ApI T en l ms w b8 sch i ko kn kc k W) (hi : i < ms.length) (hen : nameB en = false) {ro : Option Addr} {rn rc : Nat} {r : List At} (hr : AttrsAt W ro rn rc r) (hm : modR T k (mdD ms i) = (r, 0)) :
    ApI T en l ms w b8 sch (i + 1) ro rn rc r (W.setCell ⟨b8, 1, none⟩ (.slice ro rn rc)) := by
  have hc : chkA r = 0 := by have := mod_chk (T := T) (m := mdD ms i) h.chk (by rw [hm]); rwa [hm] at this
  have hbg := h.big
  refine ⟨h.kS.set _ _ (by show w.heap.size ≠ b8; omega), h.kR.set _ _ (by show w.heap.size + 2 ≠ b8; omega), Lib.heap_setCell_same h.kN _, atts_set h.kN hr (fun a ha e => ?_) _, hc, ?_, h.low.setCell (p := ⟨b8, 1, none⟩) (by show w.heap.size ≤ b8; omega) _, hbg⟩
  · have := (chk_names hc a ha).1; rw [e, hen] at this; cases this
  · rw [h.run, md_drop hi, mods_ok hm]
set_option maxHeartbeats 16000000 in
theorem apply_s (to : Option Addr) (tn tc : Nat) (co : Option Addr) (cn cc : Nat) (ts : List Ty) (cs : List Cl) (en : ByteArray) (ao : Option Addr) (n cap : Nat) (l : List At) (mo : Option Addr) (mn mc : Nat) (ms : List Md) (w : World) (h : SchV w (.agg #[.slice to tn tc, .slice co cn cc]) ts cs) (hen : en.size ≤ 1100000) (ha : AttrsAt w ao n cap l) (hS : SmallA l) (hF : FewV l) (hM : MdsAt w mo mn mc ms) (hSm : SmM ms) (ho : IntOk w) :
    Calls Tryz.prog 8 #[.agg #[.slice to tn tc, .slice co cn cc], .agg #[.string en, .slice ao n cap], .slice mo mn mc] w fun e w' => ApP (soundT ts cs) (soundC ts cs) en l ms w e w' := by
  have HS := Lib.hid h; clear h
  have HA := Lib.hid ha; clear ha
  have HO := Lib.hid ho; clear ho
  have HM := Lib.hid hM
  have hmcap := hM.2.1
  have hmmx := hM.2.2.1
  unfold maxLen at hmmx
  clear hM
  have HMl := Lib.hid HM.out.1
  have hs0 := below_al w (.cells #[.slice to tn tc, .slice co cn cc] 25)
  have HVd := Lib.hid (fun (V : World) (hb : Below w.heap.size w V) (c : ByteArray) (bo : Option Addr) (bn bc : Nat) (k : List At) (hk : AttrsAt V bo bn bc k) (hl : LightE k) => validF_s _ ts cs c bo bn bc k V (HS.out.below hb) hk hl.fewE (HO.out.below hb))
  have HMd := Lib.hid (fun (V : World) (hb : Below w.heap.size w V) (ko : Option Addr) (kn kc : Nat) (k : List At) (op : Int) (nm : ByteArray) (vo : Option Addr) (vn vc : Nat) (vs : List ByteArray) (ha : AttrsAt V ko kn kc k) (hv : StrsAt V vo vn vc vs) (hl : LightE k) (hz : SmallS vs) (hm : vn ≤ 1050000) (hn : nm.size ≤ 1100000) => modified_s to tn tc co cn cc ts cs ko kn kc k op nm vo vn vc vs V (HS.out.below hb) ha hv hl hz hm hn (HO.out.below hb))
  have hb0 : Below w.heap.size w (((w.alloc (.cells #[.slice to tn tc, .slice co cn cc] 25)).alloc (.cells #[.string en, .slice ao n cap] 28)).alloc (.cells #[.string ⟨#[]⟩, .slice none 0 0] 28)) := (hs0.alloc (by simp) _).alloc (by simp; omega) _
  have hk0 : Kb (((w.alloc (.cells #[.slice to tn tc, .slice co cn cc] 25)).alloc (.cells #[.string en, .slice ao n cap] 28)).alloc (.cells #[.string ⟨#[]⟩, .slice none 0 0] 28)) w.heap.size (.cells #[.slice to tn tc, .slice co cn cc] 25) := ((kbl_new w _).step (below_al _ _)).step (below_al _ _)
  have hk1 : Kb (((w.alloc (.cells #[.slice to tn tc, .slice co cn cc] 25)).alloc (.cells #[.string en, .slice ao n cap] 28)).alloc (.cells #[.string ⟨#[]⟩, .slice none 0 0] 28)) (w.heap.size + 1) (.cells #[.string en, .slice ao n cap] 28) := by
    have := (kbl_new (w.alloc (.cells #[.slice to tn tc, .slice co cn cc] 25)) (.cells #[.string en, .slice ao n cap] 28)).step (below_al _ (.cells #[.string ⟨#[]⟩, .slice none 0 0] 28))
    simpa using this
  have hk2 := enz_new w (.cells #[.slice to tn tc, .slice co cn cc] 25) (.cells #[.string en, .slice ao n cap] 28)
  have HNm := Lib.hid (enNormal_s to tn tc co cn cc ts cs en ao n cap l (((w.alloc (.cells #[.slice to tn tc, .slice co cn cc] 25)).alloc (.cells #[.string en, .slice ao n cap] 28)).alloc (.cells #[.string ⟨#[]⟩, .slice none 0 0] 28)) (HS.out.below hb0) hen (HA.out.below hb0) hS hF (HO.out.below hb0))
  unfold EnP at HNm
  obtain ⟨T, hT⟩ : ∃ T, soundT ts cs = T := ⟨_, rfl⟩
  obtain ⟨C, hC⟩ : ∃ C, soundC ts cs = C := ⟨_, rfl⟩
  rw [hT] at HMd HVd HNm ⊢
  rw [hC] at HVd HNm ⊢
  clear hT hC
  obtain ⟨c, hc⟩ : ∃ c, enE T C en l = c := ⟨_, rfl⟩
  obtain ⟨nn, hnn⟩ : ∃ x, enN T C en l = x := ⟨_, rfl⟩
  obtain ⟨nl, hnl⟩ : ∃ x, enL T C en l = x := ⟨_, rfl⟩
  rw [hc, hnn, hnl] at HNm
  have HC := Lib.hid hc
  have HNN := Lib.hid (And.intro hnn hnl)
  have HB0 := Lib.hid hb0
  have HK0 := Lib.hid (And.intro hk0 (And.intro hk1 hk2))
  obtain ⟨c0, c1⟩ : (((w.alloc (.cells #[.slice to tn tc, .slice co cn cc] 25)).alloc (.cells #[.string en, .slice ao n cap] 28)).alloc (.cells #[.string ⟨#[]⟩, .slice none 0 0] 28)).cell? ⟨w.heap.size, 0, none⟩ = some (.slice to tn tc) ∧ (((w.alloc (.cells #[.slice to tn tc, .slice co cn cc] 25)).alloc (.cells #[.string en, .slice ao n cap] 28)).alloc (.cells #[.string ⟨#[]⟩, .slice none 0 0] 28)).cell? ⟨w.heap.size, 1, none⟩ = some (.slice co cn cc) := ⟨hk0.cell rfl, hk0.cell rfl⟩
  obtain ⟨e0, e1⟩ : (((w.alloc (.cells #[.slice to tn tc, .slice co cn cc] 25)).alloc (.cells #[.string en, .slice ao n cap] 28)).alloc (.cells #[.string ⟨#[]⟩, .slice none 0 0] 28)).cell? ⟨w.heap.size + 1, 0, none⟩ = some (.string en) ∧ (((w.alloc (.cells #[.slice to tn tc, .slice co cn cc] 25)).alloc (.cells #[.string en, .slice ao n cap] 28)).alloc (.cells #[.string ⟨#[]⟩, .slice none 0 0] 28)).cell? ⟨w.heap.size + 1, 1, none⟩ = some (.slice ao n cap) := ⟨hk1.cell rfl, hk1.cell rfl⟩
  clear hs0 hb0 hk0 hk1 hk2 hc hnn hnl
  go_enter Tryz.func8, Tryz.ntmps8
  go_wp2_with fail
  refine HNm.out.mono ?_
  rintro e w1 ⟨_, rfl, ⟨no, n1, nc, rfl, hNA⟩, hb⟩
  have hbl := below_al w1 (.cells #[.string nn, .slice no n1 nc] 28)
  have HB1 := Lib.hid (HB0.out.trans ((hb.trans (hbl.mono hb.size)).mono HB0.out.size))
  have HK1 := Lib.hid (And.intro ((HK0.out.1.step hb).step hbl) (And.intro ((HK0.out.2.1.step hb).step hbl) (And.intro ((HK0.out.2.2.step hb).step hbl) (kbl_new w1 (.cells #[.string nn, .slice no n1 nc] 28)))))
  have HNA := Lib.hid (hNA.below hbl)
  have hsz1 : w.heap.size + 3 ≤ w1.heap.size := (HK0.out.2.2.step hb).big
  obtain ⟨b8, hb8⟩ : ∃ x, w1.heap.size = x := ⟨_, rfl⟩
  clear hb hbl hNA c0 c1 e0 e1 HNm HB0 HK0
  by_cases h0 : c = 0
  · subst h0
    have HPt := Lib.hid (en_parts HC.out)
    have HNe := Lib.hid (show nn = Nam.cleanV en ∧ nl = nmL T (nf l) by
      rw [← HNN.out.1, ← HNN.out.2]; unfold enN enL; rw [if_pos HC.out, if_pos HC.out]; exact ⟨rfl, rfl⟩)
    have HId := Lib.hid (fun (V : World) (hV : Below (w1.alloc (.cells #[.string nn, .slice no n1 nc] 28)).heap.size (w1.alloc (.cells #[.string nn, .slice no n1 nc] 28)) V) => identical_s nn en no ao n1 n nc cap nl l V (HNA.out.below hV) (HA.out.below (HB1.out.trans (hV.mono HB1.out.size))) (by rw [HNe.out.2]; exact (nm_NF (nf_NF l)).ne) (fun a ha => (chk_names HPt.out.2.1 a ha).2.1))
    obtain ⟨z, hz⟩ : ∃ z, decide (nn = en ∧ nl = l) = z := ⟨_, rfl⟩
    rw [hz] at HId
    obtain ⟨k0, k1⟩ : (w1.alloc (.cells #[.string nn, .slice no n1 nc] 28)).cell? ⟨w1.heap.size, 0, none⟩ = some (.string nn) ∧ (w1.alloc (.cells #[.string nn, .slice no n1 nc] 28)).cell? ⟨w1.heap.size, 1, none⟩ = some (.slice no n1 nc) := ⟨HK1.out.2.2.2.cell rfl, HK1.out.2.2.2.cell rfl⟩
    obtain ⟨e0, e1⟩ : (w1.alloc (.cells #[.string nn, .slice no n1 nc] 28)).cell? ⟨w.heap.size + 1, 0, none⟩ = some (.string en) ∧ (w1.alloc (.cells #[.string nn, .slice no n1 nc] 28)).cell? ⟨w.heap.size + 1, 1, none⟩ = some (.slice ao n cap) := ⟨HK1.out.2.1.cell rfl, HK1.out.2.1.cell rfl⟩
    have HZ := Lib.hid hz
    clear hz
    rw [hb8] at k0 k1 HK1
    go_wp2_with fail
    refine (HId.out _ (Below.refl _ _)).mono ?_
    rintro e w2 ⟨rfl, hb⟩
    have HB2 := Lib.hid (HB1.out.trans (hb.mono HB1.out.size))
    have HK2 := Lib.hid (And.intro (HK1.out.1.step hb) (And.intro (HK1.out.2.2.1.step hb) (HK1.out.2.2.2.step hb)))
    have HNA2 := Lib.hid (HNA.out.below hb)
    clear hb k0 k1 e0 e1 HId HK1 HNA
    cases z
    · have HE := Lib.hid (ap_arg (T := T) (cs := C) (en := en) (l := l) (ms := ms) (fun k => by
        have := of_decide_eq_false HZ.out
        exact this ⟨HNe.out.1.trans k.2.1, HNe.out.2.trans k.2.2⟩))
      obtain ⟨r0, r1⟩ : w2.cell? ⟨w.heap.size + 2, 0, none⟩ = some (.string ⟨#[]⟩) ∧ w2.cell? ⟨w.heap.size + 2, 1, none⟩ = some (.slice none 0 0) := ⟨HK2.out.2.1.cell rfl, HK2.out.2.1.cell rfl⟩
      have f0 : w2.frozen? ⟨w.heap.size + 2, 0, none⟩ = false := heap_frozen HK2.out.2.1
      have f1 : w2.frozen? ⟨w.heap.size + 2, 1, none⟩ = false := heap_frozen HK2.out.2.1
      have HBe := Lib.hid (below_set1 (below_set1 HB2.out (w.heap.size + 2) 0 (by omega) (.string ⟨#[]⟩)) (w.heap.size + 2) 1 (by omega) (.slice none 0 0))
      go_wp2_with fail
      refine bodyPost_ret (v := .tuple #[.agg #[.string ⟨#[]⟩, .slice none 0 0], .int .i64 2]) (by simp only [results, Tryz.results8]; go_simp) rfl ?_
      exact ApP.no HE.out (by decide) HBe.out
    · have hq := of_decide_eq_true HZ.out
      have HG := Lib.hid (show enE T C en l = 0 ∧ Nam.cleanV en = en ∧ nmL T (nf l) = l from ⟨HC.out, HNe.out.1.symm.trans hq.1, HNe.out.2.symm.trans hq.2⟩)
      have HNo := Lib.hid (show nameB en = false by have := clean_no_name HPt.out.1; rwa [HG.out.2.1] at this)
      obtain ⟨hq1, hq2⟩ := hq
      subst hq1 hq2
      by_cases hml : 32 < mn
      · have d3 : decide (32 < (mn : Int)) = true := decide_eq_true (by omega)
        have d4 : (mn : Int) > 32 := by omega
        have HE := Lib.hid (ap_lim (ms := ms) HG.out (by rw [HMl.out]; exact hml))
        obtain ⟨r0, r1⟩ : w2.cell? ⟨w.heap.size + 2, 0, none⟩ = some (.string ⟨#[]⟩) ∧ w2.cell? ⟨w.heap.size + 2, 1, none⟩ = some (.slice none 0 0) := ⟨HK2.out.2.1.cell rfl, HK2.out.2.1.cell rfl⟩
        have f0 : w2.frozen? ⟨w.heap.size + 2, 0, none⟩ = false := heap_frozen HK2.out.2.1
        have f1 : w2.frozen? ⟨w.heap.size + 2, 1, none⟩ = false := heap_frozen HK2.out.2.1
        have HBe := Lib.hid (below_set1 (below_set1 HB2.out (w.heap.size + 2) 0 (by omega) (.string ⟨#[]⟩)) (w.heap.size + 2) 1 (by omega) (.slice none 0 0))
        go_wp2_with fail
        refine bodyPost_ret (v := .tuple #[.agg #[.string ⟨#[]⟩, .slice none 0 0], .int .i64 3]) (by simp only [results, Tryz.results8]; go_simp) rfl ?_
        exact ApP.no HE.out (by decide) HBe.out
      · have d3 : decide (32 < (mn : Int)) = false := decide_eq_false (by omega)
        have d4 : ¬ (mn : Int) > 32 := by omega
        have HLm := Lib.hid (show ¬ 32 < ms.length by rw [HMl.out]; exact hml)
        have HI := Lib.hid (show ApI T nn nl ms w b8 (.cells #[.slice to tn tc, .slice co cn cc] 25) 0 no n1 nc nl w2 from
          ⟨HK2.out.1, HK2.out.2.1, HK2.out.2.2, HNA2.out, HPt.out.2.1, rfl, HB2.out, by omega⟩)
        clear HK2 HNA2 HB2 hb8 HB1
        go_wp2_with fail
        go_loopw [9, 11, 34] (fun _ _ s34 wr => ∃ (i : Nat) (ko : Option Addr) (kn kc : Nat) (k : List At), i ≤ mn ∧ s34 = .int .i64 i ∧ Hid (ApI T nn nl ms w b8 (.cells #[.slice to tn tc, .slice co cn cc] 25) i ko kn kc k wr)) (fun _ _ s34 _ => mn - (intOf s34).toNat)
        case atStart => exact ⟨0, no, n1, nc, nl, Nat.zero_le _, rfl, HI⟩
        case round =>
          clear HI
          obtain ⟨i, ko, kn, kc, k, hi, rfl, HI⟩ := hrel
          have hbg := HI.out.big
          by_cases hlt : i < mn
          · have d1 : (i : Int) < (mn : Int) := by omega
            obtain ⟨mb, moff, rfl, hmb, hmm⟩ := (HM.out.below HI.out.low).2.2.2 (by omega)
            obtain ⟨a0, a1, vo, vn, vc, a2, hst⟩ := hmm i hlt
            clear hmm
            have hmem : mdD ms i ∈ ms := md_mem (by rw [HMl.out]; exact hlt)
            have HNx := Lib.hid (fun (W : World) (ro : Option Addr) (rn rc : Nat) (r : List At) (hW : ApI T nn nl ms w b8 (.cells #[.slice to tn tc, .slice co cn cc] 25) i ko kn kc k W) => hW.next (by rw [HMl.out]; exact hlt) HNo.out (ro := ro) (rn := rn) (rc := rc) (r := r))
            have HRun := Lib.hid (show modsR T nl ms = modsR T k (mdD ms i :: ms.drop (i + 1)) by rw [HI.out.run, md_drop (by rw [HMl.out]; exact hlt)])
            have hz1 := hSm.nm _ hmem
            have hz2 := hSm.vl _ hmem
            have hz3 := hSm.vs _ hmem
            obtain ⟨⟨op, nm, vs⟩, hmd⟩ : ∃ x, mdD ms i = x := ⟨_, rfl⟩
            rw [hmd] at a0 a1 hst HNx HRun hz1 hz2 hz3
            simp only at a0 a1 hst hz1 hz2 hz3
            have hvn := hst.1
            rw [hvn] at hz2
            have HZ3 := Lib.hid hz3
            have HSt := Lib.hid hst
            clear hmd hmem hvn hz3 hst
            have hbl := below_al wr (.cells #[.int .i64 op, .string nm, .slice vo vn vc] 57)
            have HI4 := Lib.hid (HI.out.below hbl)
            have HMk := Lib.hid (HMd.out (wr.alloc (.cells #[.int .i64 op, .string nm, .slice vo vn vc] 57)) HI4.out.low ko kn kc k op nm vo vn vc vs HI4.out.at' (HSt.out.below hbl) (chk_light HI.out.chk) HZ3.out hz2 hz1)
            unfold MdP at HMk
            obtain ⟨⟨r, c⟩, hrc⟩ : ∃ x, modR T k ⟨op, nm, vs⟩ = x := ⟨_, rfl⟩
            rw [hrc] at HMk
            have HRC := Lib.hid hrc
            obtain ⟨q0, q1⟩ : (wr.alloc (.cells #[.int .i64 op, .string nm, .slice vo vn vc] 57)).cell? ⟨w.heap.size, 0, none⟩ = some (.slice to tn tc) ∧ (wr.alloc (.cells #[.int .i64 op, .string nm, .slice vo vn vc] 57)).cell? ⟨w.heap.size, 1, none⟩ = some (.slice co cn cc) := ⟨HI4.out.kS.cell rfl, HI4.out.kS.cell rfl⟩
            obtain ⟨k0, k1⟩ : (wr.alloc (.cells #[.int .i64 op, .string nm, .slice vo vn vc] 57)).cell? ⟨b8, 0, none⟩ = some (.string nn) ∧ (wr.alloc (.cells #[.int .i64 op, .string nm, .slice vo vn vc] 57)).cell? ⟨b8, 1, none⟩ = some (.slice ko kn kc) := ⟨HI4.out.kN.cell rfl, HI4.out.kN.cell rfl⟩
            clear hbl hrc
            go_wp2_with fail
            refine HMk.out.mono ?_
            rintro e w5 ⟨_, rfl, ⟨ro, rn, rc, rfl, hr⟩, hb⟩
            have HI5 := Lib.hid (HI4.out.below hb)
            have HR5 := Lib.hid hr
            have f9 : w5.frozen? ⟨b8, 1, none⟩ = false := heap_frozen HI5.out.kN
            clear hb hr q0 q1 k0 k1 a0 a1 a2
            obtain ⟨k0, k1⟩ : w5.cell? ⟨b8, 0, none⟩ = some (.string nn) ∧ w5.cell? ⟨b8, 1, none⟩ = some (.slice ko kn kc) := ⟨HI5.out.kN.cell rfl, HI5.out.kN.cell rfl⟩
            by_cases h0 : c = 0
            · subst h0
              have HI6 := Lib.hid (HNx.out w5 ro rn rc r HI5.out HR5.out HRC.out)
              go_wp2_with fail
              go_roundw
              case rel => exact ⟨i + 1, ro, rn, rc, r, by omega, by go_num, HI6⟩
              case measure => simp [intOf]; omega
            · have d5 : (c != 0) = true := by simpa using h0
              have HE := Lib.hid (ap_mod (ms := ms) HG.out HLm.out (HRun.out.trans (mods_no (by rw [HRC.out]) h0)) h0)
              have HR6 := Lib.hid (show Kb (w5.setCell ⟨b8, 1, none⟩ (.slice ro rn rc)) (w.heap.size + 2) (.cells #[.string ⟨#[]⟩, .slice none 0 0] 28) from HI5.out.kR.set _ _ (by show w.heap.size + 2 ≠ b8; omega))
              have HL6 := Lib.hid (show Below w.heap.size w (w5.setCell ⟨b8, 1, none⟩ (.slice ro rn rc)) from HI5.out.low.setCell (p := ⟨b8, 1, none⟩) (by show w.heap.size ≤ b8; omega) _)
              obtain ⟨r0, r1⟩ : (w5.setCell ⟨b8, 1, none⟩ (.slice ro rn rc)).cell? ⟨w.heap.size + 2, 0, none⟩ = some (.string ⟨#[]⟩) ∧ (w5.setCell ⟨b8, 1, none⟩ (.slice ro rn rc)).cell? ⟨w.heap.size + 2, 1, none⟩ = some (.slice none 0 0) := ⟨HR6.out.cell rfl, HR6.out.cell rfl⟩
              have f0 : (w5.setCell ⟨b8, 1, none⟩ (.slice ro rn rc)).frozen? ⟨w.heap.size + 2, 0, none⟩ = false := heap_frozen HR6.out
              have f1 : (w5.setCell ⟨b8, 1, none⟩ (.slice ro rn rc)).frozen? ⟨w.heap.size + 2, 1, none⟩ = false := heap_frozen HR6.out
              have HBe := Lib.hid (below_set1 (below_set1 HL6.out (w.heap.size + 2) 0 (by omega) (.string ⟨#[]⟩)) (w.heap.size + 2) 1 (by omega) (.slice none 0 0))
              go_wp2_with fail
              refine bodyPost_ret (v := .tuple #[.agg #[.string ⟨#[]⟩, .slice none 0 0], .int .i64 c]) (by simp only [results, Tryz.results8]; go_simp) rfl ?_
              exact ApP.no HE.out h0 HBe.out
          · obtain rfl : i = mn := by omega
            have d1 : ¬ (i : Int) < (i : Int) := by omega
            have HRun := Lib.hid (show modsR T nl ms = (k, 0) by rw [HI.out.run, List.drop_of_length_le (by rw [HMl.out]; exact Nat.le_refl _)]; rfl)
            have HVk := Lib.hid (HVd.out wr HI.out.low nn ko kn kc k HI.out.at' (chk_light HI.out.chk))
            obtain ⟨c, hc⟩ : ∃ c, vldE T C k = c := ⟨_, rfl⟩
            rw [hc] at HVk
            have HE := Lib.hid (ap_vld (ms := ms) HG.out HLm.out HRun.out hc)
            clear hc
            obtain ⟨q0, q1⟩ : wr.cell? ⟨w.heap.size, 0, none⟩ = some (.slice to tn tc) ∧ wr.cell? ⟨w.heap.size, 1, none⟩ = some (.slice co cn cc) := ⟨HI.out.kS.cell rfl, HI.out.kS.cell rfl⟩
            obtain ⟨k0, k1⟩ : wr.cell? ⟨b8, 0, none⟩ = some (.string nn) ∧ wr.cell? ⟨b8, 1, none⟩ = some (.slice ko kn kc) := ⟨HI.out.kN.cell rfl, HI.out.kN.cell rfl⟩
            go_wp2_with fail
            refine HVk.out.mono ?_
            rintro e w7 ⟨rfl, hb⟩
            have HI7 := Lib.hid (HI.out.below hb)
            clear hb q0 q1 k0 k1
            by_cases h0 : c = 0
            · subst h0
              obtain ⟨k0, k1⟩ : w7.cell? ⟨b8, 0, none⟩ = some (.string nn) ∧ w7.cell? ⟨b8, 1, none⟩ = some (.slice ko kn kc) := ⟨HI7.out.kN.cell rfl, HI7.out.kN.cell rfl⟩
              obtain ⟨r0, r1⟩ : w7.cell? ⟨w.heap.size + 2, 0, none⟩ = some (.string ⟨#[]⟩) ∧ w7.cell? ⟨w.heap.size + 2, 1, none⟩ = some (.slice none 0 0) := ⟨HI7.out.kR.cell rfl, HI7.out.kR.cell rfl⟩
              have f0 : w7.frozen? ⟨w.heap.size + 2, 0, none⟩ = false := heap_frozen HI7.out.kR
              have f1 : w7.frozen? ⟨w.heap.size + 2, 1, none⟩ = false := heap_frozen HI7.out.kR
              have HBe := Lib.hid (below_set1 (below_set1 HI7.out.low (w.heap.size + 2) 0 (by omega) (.string nn)) (w.heap.size + 2) 1 (by omega) (.slice ko kn kc))
              have HAe := Lib.hid (atts_res HI7.out.kR HI7.out.at' HI7.out.chk HNo.out (.slice ko kn kc))
              go_wp2_with fail
              refine bodyPost_ret (v := .tuple #[.agg #[.string nn, .slice ko kn kc], .int .i64 0]) (by simp only [results, Tryz.results8]; go_simp) rfl ?_
              exact ApP.yes HE.out (by rw [HRun.out]) HAe.out HBe.out
            · have d5 : (c != 0) = true := by simpa using h0
              obtain ⟨r0, r1⟩ : w7.cell? ⟨w.heap.size + 2, 0, none⟩ = some (.string ⟨#[]⟩) ∧ w7.cell? ⟨w.heap.size + 2, 1, none⟩ = some (.slice none 0 0) := ⟨HI7.out.kR.cell rfl, HI7.out.kR.cell rfl⟩
              have f0 : w7.frozen? ⟨w.heap.size + 2, 0, none⟩ = false := heap_frozen HI7.out.kR
              have f1 : w7.frozen? ⟨w.heap.size + 2, 1, none⟩ = false := heap_frozen HI7.out.kR
              have HBe := Lib.hid (below_set1 (below_set1 HI7.out.low (w.heap.size + 2) 0 (by omega) (.string ⟨#[]⟩)) (w.heap.size + 2) 1 (by omega) (.slice none 0 0))
              go_wp2_with fail
              refine bodyPost_ret (v := .tuple #[.agg #[.string ⟨#[]⟩, .slice none 0 0], .int .i64 c]) (by simp only [results, Tryz.results8]; go_simp) rfl ?_
              exact ApP.no HE.out h0 HBe.out
  · have d1 : (c != 0) = true := by simpa using h0
    have HE := Lib.hid (ap_arg (T := T) (cs := C) (en := en) (l := l) (ms := ms) (fun k => h0 (HC.out.symm.trans k.1)))
    clear hb8
    obtain ⟨r0, r1⟩ : (w1.alloc (.cells #[.string nn, .slice no n1 nc] 28)).cell? ⟨w.heap.size + 2, 0, none⟩ = some (.string ⟨#[]⟩) ∧ (w1.alloc (.cells #[.string nn, .slice no n1 nc] 28)).cell? ⟨w.heap.size + 2, 1, none⟩ = some (.slice none 0 0) := ⟨HK1.out.2.2.1.cell rfl, HK1.out.2.2.1.cell rfl⟩
    have f0 : (w1.alloc (.cells #[.string nn, .slice no n1 nc] 28)).frozen? ⟨w.heap.size + 2, 0, none⟩ = false := heap_frozen HK1.out.2.2.1
    have f1 : (w1.alloc (.cells #[.string nn, .slice no n1 nc] 28)).frozen? ⟨w.heap.size + 2, 1, none⟩ = false := heap_frozen HK1.out.2.2.1
    have HBe := Lib.hid (below_set1 (below_set1 HB1.out (w.heap.size + 2) 0 (by omega) (.string ⟨#[]⟩)) (w.heap.size + 2) 1 (by omega) (.slice none 0 0))
    go_wp2_with fail
    refine bodyPost_ret (v := .tuple #[.agg #[.string ⟨#[]⟩, .slice none 0 0], .int .i64 2]) (by simp only [results, Tryz.results8]; go_simp) rfl ?_
    exact ApP.no HE.out (by decide) HBe.out
end Go.Proofs.YtonfkhkalodldabGreatDoor
end

section
/-
  Contract of entry.valuesByName. Condition: few attributes.
-/
set_option maxRecDepth 100000
set_option maxRecDepth 100000
namespace Go.Proofs.YtonfkhkalodldabGreatDoor
open Go.RowKit Go.PlainAid Go.Maps
/-- a map of the values by the names, as its look-ups show it -/
structure VnM (W : World) (base b N : Nat) (f : ByteArray → Option Value) (l : List At) : Prop where
  map : RawMap W b N f
  few : N ≤ 40
  is : ∀ k, (f k).isSome = memB (names l) k
  own : ∀ k v, f k = some v → W.ownsRow base 9 1 v (vals l k).length (scells (vals l k))
theorem VnM.below {W V : World} {base b N : Nat} {f : ByteArray → Option Value} {l : List At} (h : VnM W base b N f l) (hb : Below W.heap.size W V) : VnM V base b N f l :=
  ⟨h.map.below hb h.map.lt, h.few, h.is, fun k v e => own_below (h.own k v e) hb⟩
/-- what the loop keeps -/
structure VnI (w : World) (b base : Nat) (v : Value) (U : List Tr) (K : List ByteArray) (i : Nat) (f : ByteArray → Option Value) (wr : World) : Prop where
  map : RawMap wr b i f
  row : wr.ownsRow base 41 2 v U.length (tcells U)
  own : TOwn wr base v U
  is : ∀ k, (f k).isSome = memB (K.take i) k
  of : ∀ k u, f k = some u → ∃ t ∈ U, t.1 = k ∧ t.2.1 = u
  low : Below w.heap.size w wr
  lt : b < base
theorem VnI.below {w wr V : World} {b base : Nat} {v : Value} {U : List Tr} {K : List ByteArray} {i : Nat} {f : ByteArray → Option Value} (h : VnI w b base v U K i f wr) (hb : Below wr.heap.size wr V) : VnI w b base v U K i f V :=
  ⟨h.map.below hb h.map.lt, own_below h.row hb, h.own.below hb, h.is, h.of, h.low.trans (hb.mono h.low.size), h.lt⟩
theorem VnI.next {w wr : World} {b base : Nat} {v : Value} {U : List Tr} {K : List ByteArray} {i : Nat} {f : ByteArray → Option Value} (h : VnI w b base v U K i f wr) (hb : w.heap.size ≤ b) (hi : i < K.length) {k : ByteArray} (hk : partAt K i = k) (hks : k.size ≤ maxLen) (hn : i < maxLen) {u : Value} (hu : ∃ t ∈ U, t.1 = k ∧ t.2.1 = u) :
    ∃ w', (Instr.mapUpdate 63 (.map (some b)) (.string k) u).run Tryz.prog wr = .ok () w' ∧ VnI w b base v U K (i + 1) (setO f k u) w' := by
  obtain ⟨w', hr, hm, hg⟩ := h.map.store (t := 63) (e := 38) Tryz.underlying63 hn k hks u
  have hne : ∀ {x : Value} {n size : Nat} {e : TypeId} {xs : List Value}, wr.ownsRow base e size x n xs → x.ownBlock = none ∨ x.ownBlock ≠ some b := fun {x n size e xs} hx => by
    cases q : x.ownBlock with
    | none => exact .inl rfl
    | some g => exact .inr fun e => by have := (hx.lt g q).1; have := h.lt; have := Option.some.inj e; omega
  refine ⟨w', hr, hm, h.row.kept hg (hne h.row), fun t ht => ⟨(h.own t ht).1.kept hg (hne (h.own t ht).1), (h.own t ht).2⟩, fun j => ?_, fun j x e => ?_, h.low.grown hg h.low.size (fun q hq => by cases hq; exact hb), h.lt⟩
  · rw [take_snoc K i hi, hk, memB_snoc]
    unfold setO
    by_cases e : j = k
    · rw [if_pos e, e]; simp
    · rw [if_neg e, h.is j]
      have : ¬ k = j := fun q => e q.symm
      simp [this]
  · unfold setO at e
    by_cases q : j = k
    · rw [if_pos q] at e
      obtain rfl := Option.some.inj e
      rw [q]; exact hu
    · rw [if_neg q] at e; exact h.of j x e
def VnP (l : List At) (w : World) (e : Ending) (w' : World) : Prop := ∃ b N f, e = .returned (.map (some b)) ∧ w.heap.size ≤ b ∧ VnM w' w.heap.size b N f l ∧ Below w.heap.size w w'
set_option maxHeartbeats 8000000 in
theorem valuesByName_s (ao : Option Addr) (n cap : Nat) (l : List At) (w : World) (ha : AttrsAt w ao n cap l) (hl : LightE l) (hf : LightE (nf l)) :
    Calls Tryz.prog 27 #[.slice ao n cap] w fun e w' => VnP l w e w' := by
  have hb0 := below_al w (.map #[] 0)
  have HM0 := Lib.hid (raw_made w)
  have HSo := Lib.hid (sorted_s ao n cap l _ (ha.below hb0) hl.few)
  have HB0 := Lib.hid hb0
  have hs0 : (w.alloc (.map #[] 0)).heap.size = w.heap.size + 1 := by simp
  have hmm := @run_makeMap Tryz.prog
  clear hb0 ha
  go_enter Tryz.func27, Tryz.ntmps27
  go_wp2_with fail
  clear hmm
  refine HSo.out.mono ?_
  rintro e w2 ⟨v, U, rfl, hU, hO, _, hrow, hb⟩
  obtain ⟨so, sc, rfl⟩ := row_slice hrow
  have hUl : (names l).length = U.length := by rw [← nf_lenN, ← hU, tats_len]
  have HI := Lib.hid (show VnI w w.heap.size (w.heap.size + 1) (.slice so U.length sc) U (names l) 0 (fun _ => none) w2 from
    ⟨HM0.out.below hb (by simp), by rw [← hs0]; exact hrow, by rw [← hs0]; exact hO, (fun k => rfl), (fun k u e => by cases e), HB0.out.trans (hb.mono HB0.out.size), Nat.lt_succ_self _⟩)
  have HU := Lib.hid hU
  obtain ⟨m, hm⟩ : ∃ m, U.length = m := ⟨_, rfl⟩
  have hm40 : m ≤ 40 := by have := hf.len; rw [nf_lenN] at this; omega
  rw [hm] at hUl HI ⊢
  have HM := Lib.hid (And.intro hm hUl)
  have HF := Lib.hid hf
  clear hb hU hO hrow hm hUl HSo HM0 HB0 hs0 hf
  go_wp2_with fail
  go_loopw [5, 10] (fun _ s10 wr => ∃ (i : Nat) (f : ByteArray → Option Value), i ≤ m ∧ s10 = .int .i64 i ∧ Hid (VnI w w.heap.size (w.heap.size + 1) (.slice so m sc) U (names l) i f wr)) (fun _ s10 _ => m - (intOf s10).toNat)
  case atStart => exact ⟨0, _, Nat.zero_le _, rfl, HI⟩
  case round =>
    clear HI
    obtain ⟨i, f, hi, rfl, HI⟩ := hrel
    by_cases hlt : i < m
    · have d1 : (i : Int) < (m : Int) := by omega
      obtain ⟨g, rfl⟩ : ∃ g, so = some ⟨g, 0, none⟩ := by
        have hr := HI.out.row
        rw [HM.out.1] at hr
        rcases hr.2 with ⟨e, _⟩ | ⟨g, cp, cur, e, _⟩
        · simp only [Value.slice.injEq] at e
          omega
        · simp only [Value.slice.injEq] at e
          exact ⟨g, e.1⟩
      have hiU : i < U.length := by rw [HM.out.1]; exact hlt
      have hmem : U.getD i default ∈ U := by
        rw [List.getD_eq_getElem?_getD, List.getElem?_eq_getElem hiU]; exact List.getElem_mem _
      have hnm : partAt (names l) i = (U.getD i default).1 := by
        have h1 := tats_at hiU
        rw [HU.out, nf_atD l i (by rw [nf_lenN, HM.out.2]; exact hlt)] at h1
        exact (Prod.mk.inj h1).1
      have hsz := (HF.out.each _ (show atD (nf l) i ∈ nf l by rw [at_get (nf l) i (by rw [nf_lenN, HM.out.2]; exact hlt)]; exact List.getElem_mem _)).nm
      rw [nf_atD l i (by rw [nf_lenN, HM.out.2]; exact hlt)] at hsz
      simp only at hsz
      obtain ⟨t1, t2⟩ := etc_at hiU
      have c1 := HI.out.row.cells (g := g) rfl _ _ t1
      have c2 := HI.out.row.cells (g := g) rfl _ _ t2
      rw [Go.WideShapes.add_plain, Nat.zero_add] at c1 c2
      obtain ⟨vo, vc, ev, _⟩ := strs_own (HI.out.own _ hmem).1 rfl
      rw [ev] at c2
      have hbl := below_al wr (.cells #[.string (U.getD i default).1, .slice vo (U.getD i default).2.2.length vc] 41)
      obtain ⟨w5, hrun, hI5⟩ := (HI.out.below hbl).next (Nat.le_refl _) (by rw [HM.out.2]; exact hlt) hnm (by rw [← hnm]; unfold maxLen; omega) (by unfold maxLen; omega) (u := .slice vo (U.getD i default).2.2.length vc) ⟨_, hmem, rfl, ev⟩
      have HI5 := Lib.hid hI5
      obtain ⟨nm, hnm2⟩ : ∃ x, (U.getD i default).1 = x := ⟨_, rfl⟩
      obtain ⟨vn, hvn⟩ : ∃ x, (U.getD i default).2.2.length = x := ⟨_, rfl⟩
      rw [hnm2, hvn] at hrun HI5
      rw [hnm2] at c1
      rw [hvn] at c2
      clear hmem hnm t1 t2 ev hbl hI5 hnm2 hvn hsz hiU
      go_wp2_with fail
      go_roundw
      case rel => exact ⟨i + 1, _, by omega, by go_num, HI5⟩
      case measure => simp [intOf]; omega
    · obtain rfl : i = m := by omega
      have d1 : ¬ (i : Int) < (i : Int) := by omega
      go_wp2_with fail
      go_ret
      refine ⟨w.heap.size, i, f, rfl, Nat.le_refl _, ⟨HI.out.map, hm40, fun k => ?_, fun k v e => ?_⟩, HI.out.low⟩
      · have := HI.out.is k
        rwa [← HM.out.2, List.take_length] at this
      · obtain ⟨t, ht, rfl, rfl⟩ := HI.out.of k v e
        have h1 : (t.1, t.2.2) ∈ nf l := by rw [← HU.out]; exact List.mem_map.2 ⟨t, ht, rfl⟩
        have h2 : t.2.2 = vals l t.1 := (nf_mem.1 h1).1
        rw [← h2]
        exact row_lower (HI.out.own t ht).1 (Nat.le_succ _)
end Go.Proofs.YtonfkhkalodldabGreatDoor
end

section
/-
  Contract of entry.without; the modifications of one attribute, as lists and in a slice. Condition: at most 1100000 strings.
-/
set_option maxRecDepth 100000
set_option maxRecDepth 100000
namespace Go.Proofs.YtonfkhkalodldabGreatDoor
open Go.RowKit Go.PlainAid
def minusL (a b : List ByteArray) : List ByteArray := a.filter fun v => !memB b v
theorem minus_take (a b : List ByteArray) (k : Nat) (h : k < a.length) : minusL (a.take (k + 1)) b = minusL (a.take k) b ++ (if memB b (partAt a k) = true then [] else [partAt a k]) := by
  unfold minusL
  rw [take_snoc a k h, List.filter_append]
  congr 1
  cases e : memB b (partAt a k) <;> simp [e]
theorem minus_len (a b : List ByteArray) : (minusL a b).length ≤ a.length := List.length_filter_le _ _
theorem containsS_s (ao : Option Addr) (n cap : Nat) (vs : List ByteArray) (x : ByteArray) (w : World) (hs : StrsAt w ao n cap vs) :
    Calls Tryz.prog 106 #[.slice ao n cap, .string x] w fun e w' => e = .returned (.bool (memB vs x)) ∧ w' = w := by
  by_cases h0 : 0 < n
  · obtain ⟨b, off, rfl, hi⟩ := hs.2.2.2 h0
    refine (AnyG.slices_Contains_string Tryz.contains b off n cap vs x w (by rw [hs.1]; exact Nat.le_refl _) (Nat.le_trans hs.2.1 hs.2.2.1) (fun j hj => hi.2 j hj)).mono ?_
    rintro e w' ⟨rfl, rfl⟩
    rw [List.take_of_length_le (by rw [hs.1]; exact Nat.le_refl _), contains_mem]
    exact ⟨rfl, rfl⟩
  · obtain rfl : n = 0 := by omega
    have e0 : vs = [] := List.length_eq_zero_iff.1 hs.1
    subst e0
    exact AnyG.slices_Contains_string_empty Tryz.contains ao cap x w
set_option maxHeartbeats 4000000 in
theorem without_s (ao bo : Option Addr) (n m cap dap : Nat) (a b : List ByteArray) (w : World) (h : StrsAt w ao n cap a) (k : StrsAt w bo m dap b) (hn : n ≤ 1100000) :
    Calls Tryz.prog 62 #[.slice ao n cap, .slice bo m dap] w fun e w' => ∃ v, e = .returned v ∧ w'.ownsRow w.heap.size 9 1 v (minusL a b).length (scells (minusL a b)) ∧ Below w.heap.size w w' := by
  have HA := Lib.hid h
  have HK := Lib.hid k
  have HL := Lib.hid h.1
  have hcap := h.2.1
  have hmx := h.2.2.1
  unfold maxLen at hmx
  clear h k
  go_enter Tryz.func62, Tryz.ntmps62
  go_wp2_with fail
  go_loopw [5, 7, 10] (fun s5 _ s10 wr => ∃ (i : Nat), i ≤ n ∧ s10 = .int .i64 i ∧ wr.ownsRow w.heap.size 9 1 s5 (minusL (a.take i) b).length (scells (minusL (a.take i) b)) ∧ Hid (Below w.heap.size w wr)) (fun _ _ s10 _ => n - (intOf s10).toNat)
  case atStart => exact ⟨0, Nat.zero_le _, rfl, World.ownsRow_nil _ _ _ _, Lib.hid (Below.refl _ _)⟩
  case round =>
    obtain ⟨i, hi, rfl, hown, HB⟩ := hrel
    by_cases hlt : i < n
    · have d1 : (i : Int) < (n : Int) := by omega
      obtain ⟨g, off, rfl, hg, hc⟩ := (HA.out.below HB.out).2.2.2 (by omega)
      have hcell := hc i (by rw [HL.out]; exact hlt)
      clear hc
      have HT := Lib.hid (minus_take a b i (by rw [HL.out]; exact hlt))
      obtain ⟨p, hp⟩ : ∃ x, partAt a i = x := ⟨_, rfl⟩
      rw [hp] at hcell HT
      clear hp
      have HC := Lib.hid (containsS_s bo m dap b p wr (HK.out.below HB.out))
      obtain ⟨z, hz⟩ : ∃ z, memB b p = z := ⟨_, rfl⟩
      rw [hz] at HC HT
      clear hz
      have hql : (minusL (a.take i) b).length ≤ 1100000 := by have := minus_len (a.take i) b; rw [List.length_take] at this; omega
      have hsz := HB.out.size
      go_wp2_with fail
      refine HC.out.mono ?_
      rintro e w1 ⟨rfl, rfl⟩
      cases z
      · go_wp2_with (at_builtin; go_must (refine push_str w1 hown (.tmp 18) (.tmp 20) p ?_ ?_ ?_ ?_ ?_ ?_ ?_; exact rfl; exact rfl; exact rfl; exact rfl; omega; exact hsz; intro v3 w3 hown3 hb3))
        go_roundw
        case rel => exact ⟨i + 1, by omega, by go_num, by rw [HT.out, if_neg (by decide), List.length_append]; simpa [scells] using hown3, Lib.hid (HB.out.trans hb3)⟩
        case measure => simp [intOf]; omega
      · go_wp2_with fail
        go_roundw
        case rel => exact ⟨i + 1, by omega, by go_num, by rw [HT.out]; simpa using hown, HB⟩
        case measure => simp [intOf]; omega
    · obtain rfl : i = n := by omega
      have d1 : ¬ (i : Int) < (i : Int) := by omega
      rw [show a.take i = a by rw [← HL.out]; exact List.take_length] at hown
      go_wp2_with fail
      go_ret
      exact ⟨_, rfl, hown, HB.out⟩
/-! ### the modifications of one attribute -/
def dif1 (nm : ByteArray) (bf af : List ByteArray) : List Md :=
  if af.length = 0 then [⟨2, nm, []⟩]
  else if 0 < bf.length ∧ (minusL bf af).length = bf.length then [⟨3, nm, minusL af bf⟩]
  else if 0 < (minusL bf af).length then ⟨2, nm, minusL bf af⟩ :: (if (minusL af bf).length = 0 then [] else [⟨1, nm, minusL af bf⟩])
  else if 0 < (minusL af bf).length then [⟨1, nm, minusL af bf⟩] else []
/-- a modification as a value: what it is, the head of its values -/
structure Mv where
  md : Md
  hd : Value
instance : Inhabited Mv := ⟨⟨default, .slice none 0 0⟩⟩
def mvC (m : Mv) : List Value := [.int .i64 m.md.op, .string m.md.name, m.hd]
def mcells (l : List Mv) : List Value := l.flatMap mvC
def mmds (l : List Mv) : List Md := l.map (·.md)
theorem mcells_len (l : List Mv) : (mcells l).length = l.length * 3 := flat_len mvC 3 (fun _ => rfl) l
/-- the values' rows are the call's own and lie apart from the slice of modifications -/
def MOwn (w : World) (base : Nat) (v : Value) (T : List Mv) : Prop := ∀ t ∈ T, w.ownsRow base 9 1 t.hd t.md.vs.length (scells t.md.vs) ∧ (t.hd.ownBlock = none ∨ t.hd.ownBlock ≠ v.ownBlock)
theorem MOwn.below {w w' : World} {base : Nat} {v : Value} {T : List Mv} (h : MOwn w base v T) (hb : Below w.heap.size w w') : MOwn w' base v T := fun t ht => ⟨own_below (h t ht).1 hb, (h t ht).2⟩
theorem MOwn.mono {w : World} {base base' : Nat} {v : Value} {T : List Mv} (h : MOwn w base v T) (hb : base' ≤ base) : MOwn w base' v T := fun t ht => ⟨(h t ht).1.mono hb, (h t ht).2⟩
theorem MOwn.app {w : World} {base : Nat} {v : Value} {T U : List Mv} (h : MOwn w base v T) (k : MOwn w base v U) : MOwn w base v (T ++ U) := fun t ht => (List.mem_append.1 ht).elim (h t) (k t)
theorem MOwn.grown {w w' : World} {base : Nat} {v v' : Value} {T : List Mv} (h : MOwn w base v T) (hg : w.grownBy w' v.ownBlock) (hl : v'.ownBlock = v.ownBlock ∨ ∃ g, v'.ownBlock = some g ∧ w.heap.size ≤ g) : MOwn w' base v' T := fun t ht => by
  obtain ⟨h1, h2⟩ := h t ht
  refine ⟨h1.kept hg h2, ?_⟩
  cases hb : t.hd.ownBlock with
  | none => exact .inl rfl
  | some g =>
    refine .inr fun e => ?_
    rcases hl with k | ⟨q, k, hq⟩
    · rcases h2 with h2 | h2
      · rw [hb] at h2; cases h2
      · exact h2 (hb.trans (e.trans k))
    · have := (h1.lt g hb).2
      have := Option.some.inj (e.trans k)
      omega
theorem info_mod : (Tryz.prog.info? 57).map (fun i => (i.zero, i.size, i.bytes)) = some (some (.agg #[.int .i64 0, .string ⟨#[]⟩, .slice none 0 0]), 3, 48) := by kernel_rfl
theorem mcells_one {l : List Mv} (h : ∀ m ∈ l, m.hd.oneCell' = true) : ∀ u ∈ mcells l, u.oneCell' = true := by
  intro u hu
  obtain ⟨c, hc, hu⟩ := List.mem_flatMap.1 hu
  simp only [mvC, List.mem_cons, List.not_mem_nil, or_false] at hu
  rcases hu with rfl | rfl | rfl
  · rfl
  · rfl
  · exact h c hc
/-- 'l = append(l, m)' where l is the call's own -/
theorem push_mod {ops : Array Oper} {rest : List Oper} {o : Oper} {a : Act} {Q : Exit → Act → World → Prop} (wr : World) {base : Nat} {v : Value} {n : Nat} {xs : List Value} (hown : wr.ownsRow base 57 3 v n xs) (s x : Operand)
    (op : Int) (nm : ByteArray) (hd : Value) (hone : hd.oneCell' = true) (hgd : o.guard = none)
    (ho : o.op = .call { callee := .builtin .append, args := #[s, x], argTypes := #[29, 29] })
    (hs : a.eval s = v) (hx : a.eval x = .slice (some ⟨wr.heap.size, 0, none⟩) 1 1) (hn : n + 1 ≤ 1000000000) (hbase : base ≤ wr.heap.size)
    (h : ∀ v' w', w'.ownsRow base 57 3 v' (n + 1) (xs ++ [.int .i64 op, .string nm, hd]) → (wr.alloc (.cells #[.int .i64 op, .string nm, hd] 57)).grownBy w' v.ownBlock → (v'.ownBlock = v.ownBlock ∨ ∃ g, v'.ownBlock = some g ∧ wr.heap.size < g) → wpList Tryz.prog ops Q rest (a.put o.dst v') w') :
    wpList Tryz.prog ops Q (o :: rest) a (wr.alloc (.cells #[.int .i64 op, .string nm, hd] 57)) := by
  obtain ⟨i0, hi, hz0, hz1, hz2⟩ := info_parts info_mod
  refine wpList_append_own_at _ hgd s x 29 ho base 57 i0 (.agg #[.int .i64 0, .string ⟨#[]⟩, .slice none 0 0]) 3 48 Tryz.underlying29 hi hz0 hz1 hz2 rfl (by decide) v n xs hs (hown.alloc _) ⟨wr.heap.size, 0, none⟩ 1 1 [.int .i64 op, .string nm, hd] hx rfl
    (cells_three_new _ _ _ _ _) (by intro u hu; simp at hu; rcases hu with rfl | rfl | rfl; rfl; rfl; exact hone) (by unfold maxLen; omega) (by omega) (by simp; omega) ?_
  intro v' w' h1 h2 _ h4
  refine h v' w' h1 h2 ?_
  rcases h4 with h4 | h4
  · exact .inl h4
  · exact .inr ⟨_, h4, by simp⟩
end Go.Proofs.YtonfkhkalodldabGreatDoor
end

section
/-
  Contract of entry.diffValues. Condition: at most 100000 values in each list.
-/
set_option maxRecDepth 100000
set_option maxRecDepth 100000
namespace Go.Proofs.YtonfkhkalodldabGreatDoor
open Go.RowKit Go.PlainAid
/-- modifications in a slice of the call's own -/
structure DvI (w : World) (v : Value) (T : List Mv) (W : World) : Prop where
  row : W.ownsRow w.heap.size 57 3 v T.length (mcells T)
  own : MOwn W w.heap.size v T
  low : Below w.heap.size w W
theorem DvI.nil {w W : World} (h : Below w.heap.size w W) : DvI w (.slice none 0 0) [] W := ⟨World.ownsRow_nil _ _ _ _, (fun t ht => by cases ht), h⟩
theorem DvI.below {w W V : World} {v : Value} {T : List Mv} (h : DvI w v T W) (hb : Below W.heap.size W V) : DvI w v T V := ⟨own_below h.row hb, h.own.below hb, h.low.trans (hb.mono h.low.size)⟩
theorem DvI.push {w W w' : World} {v v' : Value} {T : List Mv} (h : DvI w v T W) {op : Int} {nm : ByteArray} {vs : List ByteArray} {hd : Value} (hh : W.ownsRow w.heap.size 9 1 hd vs.length (scells vs)) (hne : hd.ownBlock = none ∨ hd.ownBlock ≠ v.ownBlock) (o : Obj)
    (hown : w'.ownsRow w.heap.size 57 3 v' (T.length + 1) (mcells T ++ [.int .i64 op, .string nm, hd])) (hg : (W.alloc o).grownBy w' v.ownBlock) (hl : v'.ownBlock = v.ownBlock ∨ ∃ g, v'.ownBlock = some g ∧ W.heap.size < g) : DvI w v' (T ++ [⟨⟨op, nm, vs⟩, hd⟩]) w' := by
  have hal := below_al W o
  have hl' : v'.ownBlock = v.ownBlock ∨ ∃ g, v'.ownBlock = some g ∧ (W.alloc o).heap.size ≤ g := hl.imp id fun ⟨g, e, q⟩ => ⟨g, e, by simp; omega⟩
  refine ⟨?_, ((h.own.below hal).grown hg hl').app fun t ht => ?_, (h.low.trans (hal.mono h.low.size)).grown hg (by have := h.low.size; simp; omega) (fun k hk => (h.row.lt k hk).1)⟩
  · rw [List.length_append]
    unfold mcells
    rw [List.flatMap_append, List.flatMap_cons, List.flatMap_nil, List.append_nil]
    exact hown
  · rw [List.mem_singleton.1 ht]
    refine ⟨(own_below hh hal).kept hg hne, ?_⟩
    show hd.ownBlock = none ∨ hd.ownBlock ≠ v'.ownBlock
    cases hk : hd.ownBlock with
    | none => exact .inl rfl
    | some k =>
      refine .inr fun e => ?_
      have hlt := (hh.lt k hk).2
      rcases hl with q | ⟨g, q, hq⟩
      · rw [hk] at hne
        rcases hne with c | c
        · cases c
        · exact c (e.trans q)
      · have := Option.some.inj (e.trans q); omega
theorem ob_em (v : Value) : v.ownBlock = none ∨ v.ownBlock ≠ (Value.slice none 0 0).ownBlock := by
  cases h : v.ownBlock with
  | none => exact .inl rfl
  | some k => exact .inr (fun e => by cases e)
theorem DvI.two {w W w' : World} {v : Value} {n : Nat} {xs : List Value} {vs : List ByteArray} {hd : Value} (hh : W.ownsRow w.heap.size 9 1 hd vs.length (scells vs)) (o : Obj) (hown : w'.ownsRow w.heap.size 57 3 v n xs) (hg : (W.alloc o).grownBy w' (Value.slice none 0 0).ownBlock) (hl : v.ownBlock = (Value.slice none 0 0).ownBlock ∨ ∃ g, v.ownBlock = some g ∧ W.heap.size < g) :
    w'.ownsRow w.heap.size 9 1 hd vs.length (scells vs) ∧ (hd.ownBlock = none ∨ hd.ownBlock ≠ v.ownBlock) := by
  refine ⟨(own_below hh (below_al W o)).kept hg (ob_em hd), ?_⟩
  cases hk : hd.ownBlock with
  | none => exact .inl rfl
  | some k =>
    refine .inr fun e => ?_
    have hlt := (hh.lt k hk).2
    rcases hl with q | ⟨g, q, hq⟩
    · rw [q] at e; cases e
    · have := Option.some.inj (e.trans q); omega
/-- what diffValues gives -/
def DvP (ms : List Md) (w : World) (e : Ending) (w' : World) : Prop := ∃ v T, e = .returned v ∧ mmds T = ms ∧ DvI w v T w'
set_option maxHeartbeats 16000000 in
theorem diffValues_s (nm : ByteArray) (bo ao : Option Addr) (bn an bc ac : Nat) (bf af : List ByteArray) (w : World) (h : StrsAt w bo bn bc bf) (k : StrsAt w ao an ac af) (hb : bn ≤ 1100000) (ha : an ≤ 1100000) :
    Calls Tryz.prog 32 #[.string nm, .slice bo bn bc, .slice ao an ac] w fun e w' => DvP (dif1 nm bf af) w e w' := by
  have HL := Lib.hid (And.intro h.1 k.1)
  have HG := Lib.hid (without_s bo ao bn an bc ac bf af w h k (by omega))
  have HD := Lib.hid (fun (V : World) (hV : Below w.heap.size w V) => without_s ao bo an bn ac bc af bf V (k.below hV) (h.below hV) (by omega))
  have hgl := minus_len bf af
  have hal := minus_len af bf
  rw [h.1] at hgl
  rw [k.1] at hal
  have HR := Lib.hid (show dif1 nm bf af = if an = 0 then [⟨2, nm, []⟩] else if 0 < bn ∧ (minusL bf af).length = bn then [⟨3, nm, minusL af bf⟩] else if 0 < (minusL bf af).length then ⟨2, nm, minusL bf af⟩ :: (if (minusL af bf).length = 0 then [] else [⟨1, nm, minusL af bf⟩]) else if 0 < (minusL af bf).length then [⟨1, nm, minusL af bf⟩] else [] by unfold dif1; rw [h.1, k.1])
  obtain ⟨ge, hge⟩ : ∃ x, minusL bf af = x := ⟨_, rfl⟩
  obtain ⟨de, hde⟩ : ∃ x, minusL af bf = x := ⟨_, rfl⟩
  rw [hge] at hgl HG HR
  rw [hde] at hal HD HR
  clear hge hde h k
  obtain ⟨gl, hgle⟩ : ∃ x, ge.length = x := ⟨_, rfl⟩
  obtain ⟨dl, hdle⟩ : ∃ x, de.length = x := ⟨_, rfl⟩
  rw [hgle] at hgl HG HR
  rw [hdle] at hal HD HR
  have HGl := Lib.hid hgle
  have HDl := Lib.hid hdle
  clear hgle hdle
  go_enter Tryz.func32, Tryz.ntmps32
  go_wp2_with fail
  refine HG.out.mono ?_
  rintro e w1 ⟨_, rfl, hg1, hb1⟩
  obtain ⟨go, gc, rfl⟩ := row_slice hg1
  have HB1 := Lib.hid hb1
  have HG1 := Lib.hid hg1
  clear hb1 hg1
  go_wp2_with fail
  refine (HD.out w1 HB1.out).mono ?_
  rintro e w2 ⟨_, rfl, hd2, hb2⟩
  obtain ⟨dO, dc, rfl⟩ := row_slice hd2
  have HB2 := Lib.hid (HB1.out.trans (hb2.mono HB1.out.size))
  have HG2 := Lib.hid (show w2.ownsRow w.heap.size 9 1 (.slice go gl gc) ge.length (scells ge) by rw [HGl.out]; exact own_below HG1.out hb2)
  have HD2 := Lib.hid (show w2.ownsRow w.heap.size 9 1 (.slice dO dl dc) de.length (scells de) by rw [HDl.out]; exact row_lower hd2 HB1.out.size)
  have HI := Lib.hid (DvI.nil HB2.out)
  have hown0 : w2.ownsRow w.heap.size 57 3 (.slice none 0 0) 0 [] := World.ownsRow_nil _ _ _ _
  have hsz := HB2.out.size
  clear hb2 hd2 HG HD
  by_cases h0 : an = 0
  · have d1 : ((an : Int) == 0) = true := by simp; omega
    have d1' : (an : Int) = 0 := by omega
    have HE := Lib.hid (HR.out.trans (if_pos h0))
    go_wp2_with (at_builtin; go_must (refine push_mod w2 hown0 (.tmp 39) (.tmp 42) 2 nm (.slice none 0 0) rfl ?_ ?_ ?_ ?_ ?_ ?_ ?_; exact rfl; exact rfl; exact rfl; exact rfl; omega; exact hsz; intro v3 w3 g1 g2 g3; obtain ⟨vo3, vc3, rfl⟩ := row_slice g1; have HI3 := Lib.hid (HI.out.push (vs := []) (World.ownsRow_nil _ _ _ _) (.inl rfl) _ g1 g2 g3); clear g1 g2 g3))
    go_ret
    exact ⟨_, _, rfl, by rw [HE.out]; rfl, HI3.out⟩
  · have d1 : ((an : Int) == 0) = false := by simp; omega
    have d1' : ¬ (an : Int) = 0 := by omega
    have HE0 := Lib.hid (HR.out.trans (if_neg h0))
    clear h0 HR
    by_cases h1 : 0 < bn ∧ gl = bn
    · have d2 : decide (0 < (bn : Int)) = true := decide_eq_true (by omega)
      have d2' : (bn : Int) > 0 := by omega
      have d3 : ((gl : Int) == (bn : Int)) = true := by simp; omega
      have d3' : (gl : Int) = (bn : Int) := by omega
      have HE := Lib.hid (HE0.out.trans (if_pos h1))
      clear h1
      go_wp2_with (at_builtin; go_must (refine push_mod w2 hown0 (.tmp 44) (.tmp 48) 3 nm (.slice dO dl dc) rfl ?_ ?_ ?_ ?_ ?_ ?_ ?_; exact rfl; exact rfl; exact rfl; exact rfl; omega; exact hsz; intro v3 w3 g1 g2 g3; obtain ⟨vo3, vc3, rfl⟩ := row_slice g1; have HI3 := Lib.hid (HI.out.push HD2.out (ob_em _) _ g1 g2 g3); clear g1 g2 g3))
      go_ret
      exact ⟨_, _, rfl, by rw [HE.out]; rfl, HI3.out⟩
    · have HE1 := Lib.hid (HE0.out.trans (if_neg h1))
      by_cases h2 : 0 < gl
      · have HE2 := Lib.hid (HE1.out.trans (if_pos h2))
        have d2 : decide (0 < (bn : Int)) = true := decide_eq_true (by omega)
        have d2' : (bn : Int) > 0 := by omega
        have d3 : ((gl : Int) == (bn : Int)) = false := by simp; omega
        have d3' : ¬ (gl : Int) = (bn : Int) := by omega
        have d4 : decide (0 < (gl : Int)) = true := decide_eq_true (by omega)
        have d4' : (gl : Int) > 0 := by omega
        clear h1 HE0 HE1
        by_cases h3 : dl = 0
        · have d5 : ((dl : Int) == 0) = true := by simp; omega
          have d5' : (dl : Int) = 0 := by omega
          have HE := Lib.hid (show dif1 nm bf af = [⟨2, nm, ge⟩] by rw [HE2.out, if_pos h3])
          clear h3
          go_wp2_with (at_builtin; go_must (refine push_mod w2 hown0 (.tmp 50) (.tmp 54) 2 nm (.slice go gl gc) rfl ?_ ?_ ?_ ?_ ?_ ?_ ?_; exact rfl; exact rfl; exact rfl; exact rfl; omega; exact hsz; intro v3 w3 g1 g2 g3; obtain ⟨vo3, vc3, rfl⟩ := row_slice g1; have HI3 := Lib.hid (HI.out.push HG2.out (ob_em _) _ g1 g2 g3); clear g1 g2 g3))
          go_ret
          exact ⟨_, _, rfl, by rw [HE.out]; rfl, HI3.out⟩
        · have d5 : ((dl : Int) == 0) = false := by simp; omega
          have d5' : ¬ (dl : Int) = 0 := by omega
          have HE := Lib.hid (show dif1 nm bf af = [⟨2, nm, ge⟩, ⟨1, nm, de⟩] by rw [HE2.out, if_neg h3])
          clear h3
          go_wp2_with (first | (at_builtin; refine push_mod w2 hown0 (.tmp 50) (.tmp 54) 2 nm (.slice go gl gc) rfl ?_ ?_ ?_ ?_ ?_ ?_ ?_; exact rfl; exact rfl; exact rfl; exact rfl; omega; exact hsz; intro v3 w3 g1 g2 g3; obtain ⟨vo3, vc3, rfl⟩ := row_slice g1; have HI3 := Lib.hid (show DvI w (.slice vo3 1 vc3) [⟨⟨2, nm, ge⟩, .slice go gl gc⟩] w3 from HI.out.push HG2.out (ob_em _) _ g1 g2 g3); have HD3 := Lib.hid (DvI.two HD2.out _ g1 g2 g3); have hown3 : w3.ownsRow w.heap.size 57 3 (.slice vo3 1 vc3) 1 (mcells [⟨⟨2, nm, ge⟩, .slice go gl gc⟩]) := HI3.out.row; have hsz3 := HI3.out.low.size; clear g1 g2 g3) | (at_builtin; go_loud (refine push_mod w3 hown3 (.tmp 59) (.tmp 63) 1 nm (.slice dO dl dc) rfl ?_ ?_ ?_ ?_ ?_ ?_ ?_; exact rfl; exact rfl; exact rfl; exact rfl; decide; exact hsz3; intro v4 w4 g1 g2 g3; obtain ⟨vo4, vc4, rfl⟩ := row_slice g1; have HI4 := Lib.hid (HI3.out.push HD3.out.1 HD3.out.2 _ g1 g2 g3); clear g1 g2 g3)))
          go_ret
          exact ⟨_, _, rfl, by rw [HE.out]; rfl, HI4.out⟩
      · have HE2 := Lib.hid (HE1.out.trans (if_neg h2))
        have d4 : decide (0 < (gl : Int)) = false := decide_eq_false (by omega)
        have d4' : ¬ (gl : Int) > 0 := by omega
        have hgz : gl = 0 := by omega
        have d3 : decide (0 < (bn : Int)) = decide (0 < bn) := by by_cases q : 0 < bn <;> simp [q]
        by_cases h4 : 0 < dl
        · have d5 : decide (0 < (dl : Int)) = true := decide_eq_true (by omega)
          have d5' : (dl : Int) > 0 := by omega
          have HE := Lib.hid (HE2.out.trans (if_pos h4))
          by_cases h5 : 0 < bn
          · have d6 : decide (0 < (bn : Int)) = true := decide_eq_true (by omega)
            have d6' : (bn : Int) > 0 := by omega
            have d7 : ((gl : Int) == (bn : Int)) = false := by simp; omega
            clear h1 h2 h4 h5 hgz d3
            go_wp2_with (at_builtin; go_must (refine push_mod w2 hown0 (.tmp 59) (.tmp 63) 1 nm (.slice dO dl dc) rfl ?_ ?_ ?_ ?_ ?_ ?_ ?_; exact rfl; exact rfl; exact rfl; exact rfl; omega; exact hsz; intro v3 w3 g1 g2 g3; obtain ⟨vo3, vc3, rfl⟩ := row_slice g1; have HI3 := Lib.hid (HI.out.push HD2.out (ob_em _) _ g1 g2 g3); clear g1 g2 g3))
            go_ret
            exact ⟨_, _, rfl, by rw [HE.out]; rfl, HI3.out⟩
          · have d6 : decide (0 < (bn : Int)) = false := decide_eq_false (by omega)
            have d6' : ¬ (bn : Int) > 0 := by omega
            clear h1 h2 h4 h5 hgz d3
            go_wp2_with (at_builtin; go_must (refine push_mod w2 hown0 (.tmp 59) (.tmp 63) 1 nm (.slice dO dl dc) rfl ?_ ?_ ?_ ?_ ?_ ?_ ?_; exact rfl; exact rfl; exact rfl; exact rfl; omega; exact hsz; intro v3 w3 g1 g2 g3; obtain ⟨vo3, vc3, rfl⟩ := row_slice g1; have HI3 := Lib.hid (HI.out.push HD2.out (ob_em _) _ g1 g2 g3); clear g1 g2 g3))
            go_ret
            exact ⟨_, _, rfl, by rw [HE.out]; rfl, HI3.out⟩
        · have d5 : decide (0 < (dl : Int)) = false := decide_eq_false (by omega)
          have d5' : ¬ (dl : Int) > 0 := by omega
          have HE := Lib.hid (HE2.out.trans (if_neg h4))
          by_cases h5 : 0 < bn
          · have d6 : decide (0 < (bn : Int)) = true := decide_eq_true (by omega)
            have d6' : (bn : Int) > 0 := by omega
            have d7 : ((gl : Int) == (bn : Int)) = false := by simp; omega
            clear h1 h2 h4 h5 hgz d3
            go_wp2_with fail
            go_ret
            exact ⟨_, [], rfl, by rw [HE.out]; rfl, HI.out⟩
          · have d6 : decide (0 < (bn : Int)) = false := decide_eq_false (by omega)
            have d6' : ¬ (bn : Int) > 0 := by omega
            clear h1 h2 h4 h5 hgz d3
            go_wp2_with fail
            go_ret
            exact ⟨_, [], rfl, by rw [HE.out]; rfl, HI.out⟩
end Go.Proofs.YtonfkhkalodldabGreatDoor
end

section
/-
  DERIVED: THE SHELF's CONTRACTS AT THIS DUMP, IN PLAIN WORDS (tools/lay-plain.mjs out of 'TryzShelfMSrc.lean', which tools/lay-shelf.mjs wrote): THE SAME DECLARATIONS UNDER THE SAME NAMES: 'import', 'namespace', 'open', 'def', 'theorem' AND NOTHING ELSE: no command of the shelf's: FOR A HAND-IN. Each laying: the table of numbers ('.._ren') and one theorem, a field a fact of the dump's own or the kernel's comparison; each contract: ONE APPLICATION.
-/
namespace Go.Proofs
open Go.Shelf
def Tryz.mclone_ren : Go.Shelf.Ren := ⟨fun | 5 => 28 | 7 => 59 | n => n, fun | 23 => 63 | 25 => 9 | 3 => 38 | 4 => 4 | 20 => 20 | n => n, fun | n => n⟩
theorem Tryz.mclone : Go.Proofs.SlLaysW.n5 Tryz.prog Tryz.mclone_ren := {
  mixed := by kernel_rfl
  f5 := ⟨Tryz.f28.name, by decide, Tryz.func28.trans (congrArg some (by kernel_rfl))⟩
  f7 := Tryz.func59.trans (congrArg some (by kernel_rfl))
  t4 := Tryz.underlying4
  a4 := Tryz.isAgg4
  z4 := Tryz.sizeOf4
  v4 := Tryz.zeroValue4
  t20 := Tryz.underlying20
  a20 := Tryz.isAgg20
  z20 := Tryz.sizeOf20
  v20 := Tryz.zeroValue20
  t23 := Tryz.underlying63
  a23 := Tryz.isAgg63
  z23 := Tryz.sizeOf63
  v23 := Tryz.zeroValue63 }
def Tryz.mcopy_ren : Go.Shelf.Ren := ⟨fun | 5 => 29 | n => n, fun | 23 => 63 | 24 => 63 | 26 => 9 | 27 => 38 | 0 => 0 | 4 => 4 | n => n, fun | n => n⟩
theorem Tryz.mcopy : Go.Proofs.SlLaysX.n5 Tryz.prog Tryz.mcopy_ren := {
  mixed := by kernel_rfl
  f5 := ⟨Tryz.f29.name, by decide, Tryz.func29.trans (congrArg some (by kernel_rfl))⟩
  t0 := Tryz.underlying0
  a0 := Tryz.isAgg0
  z0 := Tryz.sizeOf0
  v0 := Tryz.zeroValue0
  t4 := Tryz.underlying4
  a4 := Tryz.isAgg4
  z4 := Tryz.sizeOf4
  v4 := Tryz.zeroValue4
  t23 := Tryz.underlying63
  a23 := Tryz.isAgg63
  z23 := Tryz.sizeOf63
  v23 := Tryz.zeroValue63
  t24 := Tryz.underlying63
  a24 := Tryz.isAgg63
  z24 := Tryz.sizeOf63
  v24 := Tryz.zeroValue63
  a26 := Tryz.isAgg9
  z26 := Tryz.sizeOf9
  a27 := Tryz.isAgg38
  z27 := Tryz.sizeOf38 }
end Go.Proofs
end
