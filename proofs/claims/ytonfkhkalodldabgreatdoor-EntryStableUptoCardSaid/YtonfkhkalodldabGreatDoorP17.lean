/-
  Texts of the schema layer and of those beneath it, joined: EntNrw, EntEq, EntAp. Conditions stand at each contract.
-/
import Derived.Test.YtonfkhkalodldabGreatDoorP06
import Derived.Test.YtonfkhkalodldabGreatDoorP16
set_option linter.unusedVariables false
set_option linter.unusedSimpArgs false
set_option linter.unnecessarySimpa false

section
/-
  Contract of entry.Normal: its walk. Condition: names of at most 1100000 bytes, attributes few and small; the package's words as the card says.
-/
set_option maxRecDepth 100000
set_option maxRecDepth 100000
namespace Go.Proofs.YtonfkhkalodldabGreatDoor
open Go.RowKit Go.PlainAid
theorem nm_light {T : List Ty} {l : List At} (h : chkA l = 0) (hE : nmE T (nf l) = 0) : LightE (nmL T (nf l)) := chk_light (nm_chk h hE)
theorem enz_new (w : World) (a b : Obj) : Kb (((w.alloc a).alloc b).alloc (.cells #[.string ⟨#[]⟩, .slice none 0 0] 28)) (w.heap.size + 2) (.cells #[.string ⟨#[]⟩, .slice none 0 0] 28) := by
  have := kbl_new ((w.alloc a).alloc b) (.cells #[.string ⟨#[]⟩, .slice none 0 0] 28)
  simpa using this
set_option maxHeartbeats 16000000 in
theorem enNormal_s (to : Option Addr) (tn tc : Nat) (co : Option Addr) (cn cc : Nat) (ts : List Ty) (cs : List Cl) (en : ByteArray) (ao : Option Addr) (n cap : Nat) (l : List At) (w : World) (h : SchV w (.agg #[.slice to tn tc, .slice co cn cc]) ts cs) (hen : en.size ≤ 1100000) (ha : AttrsAt w ao n cap l) (hS : SmallA l) (hF : FewV l) (ho : IntOk w) :
    Calls Tryz.prog 5 #[.agg #[.slice to tn tc, .slice co cn cc], .agg #[.string en, .slice ao n cap]] w fun e w' => EnP (soundT ts cs) (soundC ts cs) en l w e w' := by
  have HS := Lib.hid h; clear h
  have HA := Lib.hid ha; clear ha
  have HO := Lib.hid ho; clear ho
  have hs0 := below_al w (.cells #[.slice to tn tc, .slice co cn cc] 25)
  have HVd := Lib.hid (fun (V : World) (hb : Below w.heap.size w V) (c : ByteArray) (bo : Option Addr) (bn bc : Nat) (k : List At) (hk : AttrsAt V bo bn bc k) (hl : LightE k) => validF_s _ ts cs c bo bn bc k V (HS.out.below hb) hk hl.fewE (HO.out.below hb))
  have HNv := Lib.hid (fun (V : World) (hb : Below w.heap.size w V) (nm : ByteArray) (vo : Option Addr) (vn vc : Nat) (vs : List ByteArray) (hv : StrsAt V vo vn vc vs) (hn : nm.size ≤ 1000000000) (hz : SmallS vs) (hm : vn ≤ 1100000) => nvals_s to tn tc co cn cc ts cs nm vo vn vc vs V (HS.out.below hb) hv hn hz hm (HO.out.below hb))
  obtain ⟨T, hT⟩ : ∃ T, soundT ts cs = T := ⟨_, rfl⟩
  obtain ⟨C, hC⟩ : ∃ C, soundC ts cs = C := ⟨_, rfl⟩
  rw [hT] at HNv HVd ⊢
  rw [hC] at HVd ⊢
  clear hT hC
  have hb0 : Below w.heap.size w (((w.alloc (.cells #[.slice to tn tc, .slice co cn cc] 25)).alloc (.cells #[.string en, .slice ao n cap] 28)).alloc (.cells #[.string ⟨#[]⟩, .slice none 0 0] 28)) := (hs0.alloc (by simp) _).alloc (by simp; omega) _
  have hk0 : Kb (((w.alloc (.cells #[.slice to tn tc, .slice co cn cc] 25)).alloc (.cells #[.string en, .slice ao n cap] 28)).alloc (.cells #[.string ⟨#[]⟩, .slice none 0 0] 28)) w.heap.size (.cells #[.slice to tn tc, .slice co cn cc] 25) := ((kbl_new w _).step (below_al _ _)).step (below_al _ _)
  have hk1 : Kb (((w.alloc (.cells #[.slice to tn tc, .slice co cn cc] 25)).alloc (.cells #[.string en, .slice ao n cap] 28)).alloc (.cells #[.string ⟨#[]⟩, .slice none 0 0] 28)) (w.heap.size + 1) (.cells #[.string en, .slice ao n cap] 28) := by
    have := (kbl_new (w.alloc (.cells #[.slice to tn tc, .slice co cn cc] 25)) (.cells #[.string en, .slice ao n cap] 28)).step (below_al _ (.cells #[.string ⟨#[]⟩, .slice none 0 0] 28))
    simpa using this
  have hk2 := enz_new w (.cells #[.slice to tn tc, .slice co cn cc] 25) (.cells #[.string en, .slice ao n cap] 28)
  have HCl := Lib.hid (Nam.clean0_s en (((w.alloc (.cells #[.slice to tn tc, .slice co cn cc] 25)).alloc (.cells #[.string en, .slice ao n cap] 28)).alloc (.cells #[.string ⟨#[]⟩, .slice none 0 0] 28)) hen)
  have HB0 := Lib.hid hb0
  have HK0 := Lib.hid (And.intro hk0 (And.intro hk1 hk2))
  clear hs0 hb0 hk0 hk1 hk2
  go_enter Tryz.func5, Tryz.ntmps5
  go_wp2_with fail
  refine HCl.out.mono ?_
  rintro e w1 ⟨rfl, hb⟩
  have HB1 := Lib.hid (HB0.out.trans (hb.mono HB0.out.size))
  have HK1 := Lib.hid (And.intro (HK0.out.1.step hb) (And.intro (HK0.out.2.1.step hb) (HK0.out.2.2.step hb)))
  clear hb HCl HB0 HK0
  obtain ⟨cl, hcl⟩ : ∃ x, Nam.cleanV en = x := ⟨_, rfl⟩
  obtain ⟨ce, hce⟩ : ∃ x, Nam.cleanE en = x := ⟨_, rfl⟩
  rw [hcl, hce]
  have HCe := Lib.hid (And.intro hcl hce)
  clear hcl hce
  obtain ⟨e0, e1⟩ : w1.cell? ⟨w.heap.size + 1, 0, none⟩ = some (.string en) ∧ w1.cell? ⟨w.heap.size + 1, 1, none⟩ = some (.slice ao n cap) := ⟨HK1.out.2.1.cell rfl, HK1.out.2.1.cell rfl⟩
  by_cases hbad : ce ≠ 0 ∨ cl = ⟨#[]⟩
  · have HE := Lib.hid (enE_name (T := T) (cs := C) (l := l) (show Nam.cleanE en ≠ 0 ∨ Nam.cleanV en = ⟨#[]⟩ by rw [HCe.out.1, HCe.out.2]; exact hbad))
    obtain ⟨r0, r1⟩ : w1.cell? ⟨w.heap.size + 2, 0, none⟩ = some (.string ⟨#[]⟩) ∧ w1.cell? ⟨w.heap.size + 2, 1, none⟩ = some (.slice none 0 0) := ⟨HK1.out.2.2.cell rfl, HK1.out.2.2.cell rfl⟩
    have f0 : w1.frozen? ⟨w.heap.size + 2, 0, none⟩ = false := heap_frozen HK1.out.2.2
    have f1 : w1.frozen? ⟨w.heap.size + 2, 1, none⟩ = false := heap_frozen HK1.out.2.2
    have HBe := Lib.hid (below_set1 (below_set1 HB1.out (w.heap.size + 2) 0 (by omega) (.string ⟨#[]⟩)) (w.heap.size + 2) 1 (by omega) (.slice none 0 0))
    by_cases hc0 : ce = 0
    · have hcz : cl = ⟨#[]⟩ := hbad.resolve_left (fun k => k hc0)
      subst hc0 hcz
      clear hbad
      go_wp2_with fail
      refine bodyPost_ret (v := .tuple #[.agg #[.string ⟨#[]⟩, .slice none 0 0], .int .i64 5]) (by simp only [results, Tryz.results5]; go_simp) rfl ?_
      exact EnP.no HE.out (by decide) HBe.out
    · have d1 : (ce != 0) = true := by simpa using hc0
      clear hbad
      go_wp2_with fail
      refine bodyPost_ret (v := .tuple #[.agg #[.string ⟨#[]⟩, .slice none 0 0], .int .i64 5]) (by simp only [results, Tryz.results5]; go_simp) rfl ?_
      exact EnP.no HE.out (by decide) HBe.out
  · have hc0 : ce = 0 := Classical.not_not.1 fun k => hbad (.inl k)
    have hcz : cl ≠ ⟨#[]⟩ := fun k => hbad (.inr k)
    subst hc0
    have d1 := emp_eq hcz
    have d2 := emp_false hcz
    have HNb := Lib.hid (show ¬ (Nam.cleanE en ≠ 0 ∨ Nam.cleanV en = ⟨#[]⟩) by rw [HCe.out.1, HCe.out.2]; exact hbad)
    have HCk := Lib.hid (check_s ao n cap l w1 (HA.out.below HB1.out) hS hF)
    clear hbad hcz
    obtain ⟨c, hc⟩ : ∃ c, chkA l = c := ⟨_, rfl⟩
    rw [hc] at HCk
    have HCc := Lib.hid hc
    clear hc
    go_wp2_with fail
    refine HCk.out.mono ?_
    rintro e w2 ⟨rfl, hb⟩
    have HB2 := Lib.hid (HB1.out.trans (hb.mono HB1.out.size))
    have HK2 := Lib.hid (And.intro (HK1.out.1.step hb) (And.intro (HK1.out.2.1.step hb) (HK1.out.2.2.step hb)))
    clear hb HCk e0 e1
    obtain ⟨e0, e1⟩ : w2.cell? ⟨w.heap.size + 1, 0, none⟩ = some (.string en) ∧ w2.cell? ⟨w.heap.size + 1, 1, none⟩ = some (.slice ao n cap) := ⟨HK2.out.2.1.cell rfl, HK2.out.2.1.cell rfl⟩
    by_cases h0 : c = 0
    · subst h0
      have HLt := Lib.hid (chk_light HCc.out)
      have hbig2 : w.heap.size + 3 ≤ w2.heap.size := HK2.out.2.2.big
      have HSo := Lib.hid (sorted_s ao n cap l w2 (HA.out.below HB2.out) HLt.out.few)
      go_wp2_with fail
      refine HSo.out.mono ?_
      rintro e w3 ⟨v, U, rfl, hU, hO, _, hrow, hb⟩
      obtain ⟨so, sc, rfl⟩ := row_slice hrow
      have HB3 := Lib.hid (HB2.out.trans (hb.mono HB2.out.size))
      have hbl := below_al w3 (.cells #[.string cl, .slice so U.length sc] 28)
      have HUl := Lib.hid (show (nf l).length = U.length by rw [← hU, tats_len])
      have HI := Lib.hid (show NmI T (nf l) w w3.heap.size w2.heap.size cl (.cells #[.slice to tn tc, .slice co cn cc] 25) so U.length sc 0 U (w3.alloc (.cells #[.string cl, .slice so U.length sc] 28)) from
        ⟨(HK2.out.1.step hb).step hbl, (HK2.out.2.2.step hb).step hbl, kbl_new _ _, rfl, own_below hrow hbl, hO.below hbl, (by simpa [nmL] using hU), (fun q hq => absurd hq (Nat.not_lt_zero _)), HB3.out.trans (hbl.mono HB3.out.size), (fun g e => by subst e; have := (hrow.lt g rfl).2; omega), hbig2, by have := hb.size; omega, hb.size⟩)
      have HLn := Lib.hid (show ∀ q, q < (nf l).length → LightE (nf l) from fun _ _ => chk_light (nf_chk HCc.out))
      have HLz := Lib.hid (chk_light (nf_chk HCc.out))
      obtain ⟨m, hm⟩ : ∃ m, U.length = m := ⟨_, rfl⟩
      rw [hm] at HI HUl hrow ⊢
      obtain ⟨b9, hb9⟩ : ∃ x, w3.heap.size = x := ⟨_, rfl⟩
      obtain ⟨L, hL⟩ : ∃ x, nf l = x := ⟨_, rfl⟩
      have HLe := Lib.hid hL
      rw [hL] at HI HUl HLz
      clear hb hbl hU hO hrow HLn hm hL e0 e1 HSo
      have hm32 : m ≤ 32 := by have h1 := HUl.out; have h2 := (chk_ok (nf_chk HCc.out)).len; rw [HLe.out] at h2; omega
      obtain ⟨k0, k1⟩ : (w3.alloc (.cells #[.string cl, .slice so m sc] 28)).cell? ⟨w3.heap.size, 0, none⟩ = some (.string cl) ∧ (w3.alloc (.cells #[.string cl, .slice so m sc] 28)).cell? ⟨w3.heap.size, 1, none⟩ = some (.slice so m sc) := ⟨HI.out.kN.cell rfl, HI.out.kN.cell rfl⟩
      go_wp2_with fail
      rw [hb9] at HI
      go_loopw [10, 11, 12, 13, 43] (fun _ _ _ _ s43 wr => ∃ (i : Nat) (U : List Tr), i ≤ m ∧ s43 = .int .i64 i ∧ Hid (NmI T L w b9 w2.heap.size cl (.cells #[.slice to tn tc, .slice co cn cc] 25) so m sc i U wr)) (fun _ _ _ _ s43 _ => m - (intOf s43).toNat)
      case atStart => exact ⟨0, _, Nat.zero_le _, rfl, HI⟩
      case round =>
        clear HI k0 k1 hb9
        obtain ⟨i, V, hi, rfl, HI⟩ := hrel
        have hbgb := HI.out.big
        have hszr := HI.out.kN.big
        by_cases hlt : i < m
        · have d1 : (i : Int) < (m : Int) := by omega
          obtain ⟨g, rfl⟩ : ∃ g, so = some ⟨g, 0, none⟩ := by
            rcases HI.out.row.2 with ⟨e, _⟩ | ⟨g, cp, cur, e, _⟩
            · simp only [Value.slice.injEq] at e
              omega
            · simp only [Value.slice.injEq] at e
              exact ⟨g, e.1⟩
          obtain ⟨vo, vc, c1, c2, hst⟩ := HI.out.cell HUl.out hlt
          have hgl := HI.out.row.lt g rfl
          have hAt := HLz.out.each (atD L i) (by rw [at_get L i (by rw [HUl.out]; exact hlt)]; exact List.getElem_mem _)
          have HFt := Lib.hid (fun (c : Int) (hc : nvE T (atD L i).1 (atD L i).2 = c) (h0 : c ≠ 0) => show nmE T L = c from by
            unfold nmE; rw [firstE_hit HI.out.zero (by show nvE T (atD L i).1 (atD L i).2 ≠ 0; rw [hc]; exact h0) (by rw [HUl.out]; exact hlt)]; exact hc)
          have HSt := Lib.hid (fun (W : World) (u : Value) (hW : NmI T L w b9 w2.heap.size cl (.cells #[.slice to tn tc, .slice co cn cc] 25) (some ⟨g, 0, none⟩) m sc i V W) => hW.store HUl.out hlt u)
          obtain ⟨nm, hnm⟩ : ∃ x, (atD L i).1 = x := ⟨_, rfl⟩
          obtain ⟨vs, hvs⟩ : ∃ x, (atD L i).2 = x := ⟨_, rfl⟩
          have hA1 := hAt.nm
          have hA2 := hAt.len
          have hA3 := hAt.each
          rw [hnm, hvs] at HFt HSt
          rw [hnm] at c1 hA1
          rw [hvs] at c2 hst hA2 hA3
          have HA3 := Lib.hid hA3
          obtain ⟨vn, hvn⟩ : ∃ x, vs.length = x := ⟨_, rfl⟩
          rw [hvn] at c2 hst hA2
          have HVn := Lib.hid hvn
          have HSv := Lib.hid hst
          clear hnm hvs hAt hA3 hvn hst
          have hbl := below_al wr (.cells #[.string nm, .slice vo vn vc] 41)
          have HI4 := Lib.hid (HI.out.below hbl)
          have HNk := Lib.hid (HNv.out (wr.alloc (.cells #[.string nm, .slice vo vn vc] 41)) HI4.out.low nm vo vn vc vs (HSv.out.below hbl) (by omega) (fun v hv => by have := HA3.out v hv; omega) (by omega))
          unfold NvP at HNk
          obtain ⟨q0, q1⟩ : (wr.alloc (.cells #[.string nm, .slice vo vn vc] 41)).cell? ⟨w.heap.size, 0, none⟩ = some (.slice to tn tc) ∧ (wr.alloc (.cells #[.string nm, .slice vo vn vc] 41)).cell? ⟨w.heap.size, 1, none⟩ = some (.slice co cn cc) := ⟨HI4.out.kS.cell rfl, HI4.out.kS.cell rfl⟩
          obtain ⟨c, hc⟩ : ∃ c, nvE T nm vs = c := ⟨_, rfl⟩
          rw [hc] at HNk
          have HC := Lib.hid hc
          clear hbl hc
          go_wp2_with fail
          refine HNk.out.mono ?_
          rintro e w5 ⟨u, rfl, hrow, hb⟩
          have HI5 := Lib.hid (HI4.out.below hb)
          by_cases h0 : c = 0
          · subst h0
            have hnl : nvL T nm vs = fmsL T nm vs := if_pos HC.out
            rw [hnl, fms_len, HVn.out] at hrow
            have HSrt := Lib.hid (sortRow_s (wr.alloc (.cells #[.string nm, .slice vo vn vc] 41)).heap.size vn u (fmsL T nm vs) w5 hrow (by rw [fms_len, HVn.out]) (by omega) (nv_fms HC.out).2)
            have HRl := Lib.hid (fun k e => (hrow.lt k e).1)
            obtain ⟨uo, uc, rfl⟩ := row_slice hrow
            have hb5 := hb.size
            have HB45 := Lib.hid hb
            clear hb hnl hrow q0 q1 c1 c2
            go_wp2_with fail
            refine HSrt.out.mono ?_
            rintro e w6 ⟨rfl, hrow, hgr⟩
            have hb6 : Below (wr.alloc (.cells #[.string nm, .slice vo vn vc] 41)).heap.size w5 w6 := (Below.refl _ _).grown hgr hb5 HRl.out
            have HI6 := Lib.hid (show NmI T L w b9 w2.heap.size cl (.cells #[.slice to tn tc, .slice co cn cc] 25) (some ⟨g, 0, none⟩) m sc i V w6 from HI4.out.below (HB45.out.trans hb6))
            have HN7 := Lib.hid (HSt.out w6 (.slice uo vn uc) HI6.out (by
              have h1 : (sortU (fmsL T nm vs)).length = vn := by rw [sortU_len_new (nv_fms HC.out).2, fms_len, HVn.out]
              rw [h1]; exact row_lower hrow (by simp; omega)) (by
              cases hk : (Value.slice uo vn uc).ownBlock with
              | none => exact .inl rfl
              | some k => exact .inr fun e => by have h1 := HRl.out k hk; have := Option.some.inj e; simp at h1; omega) HC.out)
            obtain ⟨k0, k1⟩ : w6.cell? ⟨b9, 0, none⟩ = some (.string cl) ∧ w6.cell? ⟨b9, 1, none⟩ = some (.slice (some ⟨g, 0, none⟩) m sc) := ⟨HI6.out.kN.cell rfl, HI6.out.kN.cell rfl⟩
            obtain ⟨_, _, c1, c2, _⟩ := HI6.out.cell HUl.out hlt
            have f1 : w6.frozen? ⟨g, i * 2 + 1, none⟩ = false := HI6.out.row.frozenAt _
            clear hrow hgr hb6
            go_wp2_with fail
            go_roundw
            case rel => exact ⟨i + 1, _, by omega, by go_num, HN7⟩
            case measure => simp [intOf]; omega
          · have d3 : (c != 0) = true := by simpa using h0
            have HE := Lib.hid (enE_nm (T := T) (cs := C) HNb.out HCc.out (by rw [HLe.out]; exact HFt.out c HC.out h0) h0)
            obtain ⟨r0, r1⟩ : w5.cell? ⟨w.heap.size + 2, 0, none⟩ = some (.string ⟨#[]⟩) ∧ w5.cell? ⟨w.heap.size + 2, 1, none⟩ = some (.slice none 0 0) := ⟨HI5.out.kR.cell rfl, HI5.out.kR.cell rfl⟩
            have f0 : w5.frozen? ⟨w.heap.size + 2, 0, none⟩ = false := heap_frozen HI5.out.kR
            have f1 : w5.frozen? ⟨w.heap.size + 2, 1, none⟩ = false := heap_frozen HI5.out.kR
            have HBe := Lib.hid (below_set1 (below_set1 HI5.out.low (w.heap.size + 2) 0 (by omega) (.string ⟨#[]⟩)) (w.heap.size + 2) 1 (by omega) (.slice none 0 0))
            obtain ⟨uo, uc, rfl⟩ := row_slice hrow
            clear hb hrow
            go_wp2_with fail
            refine bodyPost_ret (v := .tuple #[.agg #[.string ⟨#[]⟩, .slice none 0 0], .int .i64 c]) (by simp only [results, Tryz.results5]; go_simp) rfl ?_
            exact EnP.no HE.out h0 HBe.out
        · obtain rfl : i = m := by omega
          have d1 : ¬ (i : Int) < (i : Int) := by omega
          have HE0 := Lib.hid (show nmE T (nf l) = 0 by rw [HLe.out]; exact firstE_zero (by rw [HUl.out]; exact HI.out.zero))
          have HDn := Lib.hid (show tats V = nmL T L by have := HI.out.done; rwa [← HUl.out, List.take_length, List.drop_length, List.append_nil] at this)
          have HVk := Lib.hid (HVd.out wr HI.out.low cl so i sc (nmL T L) (by rw [← HDn.out]; exact own_atts HI.out.row HI.out.own) (by rw [← HLe.out]; exact nm_light HCc.out HE0.out))
          obtain ⟨q0, q1⟩ : wr.cell? ⟨w.heap.size, 0, none⟩ = some (.slice to tn tc) ∧ wr.cell? ⟨w.heap.size, 1, none⟩ = some (.slice co cn cc) := ⟨HI.out.kS.cell rfl, HI.out.kS.cell rfl⟩
          obtain ⟨k0, k1⟩ : wr.cell? ⟨b9, 0, none⟩ = some (.string cl) ∧ wr.cell? ⟨b9, 1, none⟩ = some (.slice so i sc) := ⟨HI.out.kN.cell rfl, HI.out.kN.cell rfl⟩
          obtain ⟨c, hc⟩ : ∃ c, vldE T C (nmL T L) = c := ⟨_, rfl⟩
          rw [hc] at HVk
          have HE := Lib.hid (enE_vld (c := c) (T := T) (cs := C) HNb.out HCc.out HE0.out (by rw [HLe.out]; exact hc))
          clear hc
          go_wp2_with fail
          refine HVk.out.mono ?_
          rintro e w7 ⟨rfl, hb⟩
          have HI7 := Lib.hid (HI.out.below hb)
          clear hb q0 q1 k0 k1
          obtain ⟨k0, k1⟩ : w7.cell? ⟨b9, 0, none⟩ = some (.string cl) ∧ w7.cell? ⟨b9, 1, none⟩ = some (.slice so i sc) := ⟨HI7.out.kN.cell rfl, HI7.out.kN.cell rfl⟩
          obtain ⟨r0, r1⟩ : w7.cell? ⟨w.heap.size + 2, 0, none⟩ = some (.string ⟨#[]⟩) ∧ w7.cell? ⟨w.heap.size + 2, 1, none⟩ = some (.slice none 0 0) := ⟨HI7.out.kR.cell rfl, HI7.out.kR.cell rfl⟩
          have f0 : w7.frozen? ⟨w.heap.size + 2, 0, none⟩ = false := heap_frozen HI7.out.kR
          have f1 : w7.frozen? ⟨w.heap.size + 2, 1, none⟩ = false := heap_frozen HI7.out.kR
          by_cases h0 : c = 0
          · subst h0
            have HBe := Lib.hid (below_set1 (below_set1 HI7.out.low (w.heap.size + 2) 0 (by omega) (.string cl)) (w.heap.size + 2) 1 (by omega) (.slice so i sc))
            have HAe := Lib.hid (show AttrsAt ((w7.setCell ⟨w.heap.size + 2, 0, none⟩ (.string cl)).setCell ⟨w.heap.size + 2, 1, none⟩ (.slice so i sc)) so i sc (nmL T L) by
              rw [← HDn.out]
              exact own_atts (ownsRow_setCell_below (ownsRow_setCell_below HI7.out.row (a := ⟨w.heap.size + 2, 0, none⟩) (by show w.heap.size + 2 < w2.heap.size; omega) _) (a := ⟨w.heap.size + 2, 1, none⟩) (by show w.heap.size + 2 < w2.heap.size; omega) _)
                ((HI7.out.own.set (a := ⟨w.heap.size + 2, 0, none⟩) (by show w.heap.size + 2 < w2.heap.size; omega) _).set (a := ⟨w.heap.size + 2, 1, none⟩) (by show w.heap.size + 2 < w2.heap.size; omega) _))
            have HCl2 := Lib.hid (And.intro HCe.out.1 (show nmL T (nf l) = nmL T L by rw [HLe.out]))
            go_wp2_with fail
            refine bodyPost_ret (v := .tuple #[.agg #[.string cl, .slice so i sc], .int .i64 0]) (by simp only [results, Tryz.results5]; go_simp) rfl ?_
            exact EnP.yes HE.out HCl2.out.1 HCl2.out.2 HAe.out HBe.out
          · have d3 : (c != 0) = true := by simpa using h0
            have HBe := Lib.hid (below_set1 (below_set1 HI7.out.low (w.heap.size + 2) 0 (by omega) (.string ⟨#[]⟩)) (w.heap.size + 2) 1 (by omega) (.slice none 0 0))
            go_wp2_with fail
            refine bodyPost_ret (v := .tuple #[.agg #[.string ⟨#[]⟩, .slice none 0 0], .int .i64 c]) (by simp only [results, Tryz.results5]; go_simp) rfl ?_
            exact EnP.no HE.out h0 HBe.out
    · have d3 : (c != 0) = true := by simpa using h0
      have HE := Lib.hid (enE_chk (T := T) (cs := C) HNb.out HCc.out h0)
      obtain ⟨r0, r1⟩ : w2.cell? ⟨w.heap.size + 2, 0, none⟩ = some (.string ⟨#[]⟩) ∧ w2.cell? ⟨w.heap.size + 2, 1, none⟩ = some (.slice none 0 0) := ⟨HK2.out.2.2.cell rfl, HK2.out.2.2.cell rfl⟩
      have f0 : w2.frozen? ⟨w.heap.size + 2, 0, none⟩ = false := heap_frozen HK2.out.2.2
      have f1 : w2.frozen? ⟨w.heap.size + 2, 1, none⟩ = false := heap_frozen HK2.out.2.2
      have HBe := Lib.hid (below_set1 (below_set1 HB2.out (w.heap.size + 2) 0 (by omega) (.string ⟨#[]⟩)) (w.heap.size + 2) 1 (by omega) (.slice none 0 0))
      go_wp2_with fail
      refine bodyPost_ret (v := .tuple #[.agg #[.string ⟨#[]⟩, .slice none 0 0], .int .i64 c]) (by simp only [results, Tryz.results5]; go_simp) rfl ?_
      exact EnP.no HE.out h0 HBe.out
end Go.Proofs.YtonfkhkalodldabGreatDoor
end

section
/-
  Contract of entry.identical. Condition: each attribute has a value.
-/
set_option maxRecDepth 100000
set_option maxRecDepth 100000
namespace Go.Proofs.YtonfkhkalodldabGreatDoor
open Go.RowKit Go.PlainAid
set_option maxRecDepth 100000 in
set_option maxHeartbeats 2000000 in
theorem enEq1_s (p q : ByteArray) (vo uo : Option Addr) (vn un vc uc : Nat) (vs us : List ByteArray) (w : World) (h : StrsAt w vo vn vc vs) (k : StrsAt w uo un uc us) (h0 : 0 < vn) (k0 : 0 < un) :
    Calls Tryz.prog 53 #[.agg #[.string p, .slice vo vn vc], .agg #[.string q, .slice uo un uc]] w fun e w' => e = .returned (.bool (decide (p = q ∧ vs = us))) ∧ Below w.heap.size w w' := by
  obtain ⟨W1, hW1⟩ : ∃ x, w.alloc (.cells #[.string p, .slice vo vn vc] 41) = x := ⟨_, rfl⟩
  obtain ⟨W2, hW2⟩ : ∃ x, W1.alloc (.cells #[.string q, .slice uo un uc] 41) = x := ⟨_, rfl⟩
  have hb1 : Below w.heap.size w W1 := by rw [← hW1]; exact (Below.refl _ w).alloc (Nat.le_refl _) _
  have hb2 : Below W1.heap.size W1 W2 := by rw [← hW2]; exact (Below.refl _ W1).alloc (Nat.le_refl _) _
  have X1 : ABox W2 w.heap.size p (.slice vo vn vc) := ABox.below (by rw [← hW1]; exact abox_new w p _) hb2
  have X2 : ABox W2 W1.heap.size q (.slice uo un uc) := by rw [← hW2]; exact abox_new W1 q _
  have hs1 : W1.heap.size = w.heap.size + 1 := by rw [← hW1]; simp
  rw [hs1] at X2
  obtain ⟨x0, x1⟩ := X1.cells
  obtain ⟨y0, y1⟩ := X2.cells
  have HBW := Lib.hid (hb1.trans (hb2.mono hb1.size))
  have HV := Lib.hid (h.below HBW.out)
  have HU := Lib.hid (k.below HBW.out)
  clear h k hb1 hb2 X1 X2 hs1
  subst hW2
  subst hW1
  by_cases hpq : p = q
  · have q1 : (p.toList == q.toList) = true := by rw [str_eq]; exact decide_eq_true hpq
    have HE := Lib.hid (show decide (p = q ∧ vs = us) = decide (vs = us) by simp [hpq])
    have HS := Lib.hid (sequal_s vo uo vn un vc uc vs us _ HV.out HU.out h0 k0)
    clear hpq
    go_enter Tryz.func53, Tryz.ntmps53
    go_wp2_with fail
    refine HS.out.mono ?_
    rintro e w' ⟨rfl, hb⟩
    go_wp2_with fail
    go_ret
    exact ⟨by rw [HE.out]; rfl, HBW.out.trans (hb.mono HBW.out.size)⟩
  · have q1 : (p.toList == q.toList) = false := by rw [str_eq]; exact decide_eq_false hpq
    have HE := Lib.hid (show decide (p = q ∧ vs = us) = false from decide_eq_false fun e => hpq e.1)
    clear hpq
    go_enter Tryz.func53, Tryz.ntmps53
    go_wp2_with fail
    go_ret
    exact ⟨by rw [HE.out]; rfl, HBW.out⟩
set_option maxRecDepth 100000 in
set_option maxHeartbeats 4000000 in
theorem enEqf_s (ao bo : Option Addr) (n m cap dap : Nat) (T U : List Tr) (w : World) (h : TsAt w ao n cap T) (k : TsAt w bo m dap U) (hT : TOk w T) (hU : TOk w U) (nT : ∀ t ∈ T, t.2.2 ≠ []) (nU : ∀ t ∈ U, t.2.2 ≠ []) :
    Calls Tryz.prog 52 #[.slice ao n cap, .slice bo m dap, .func (.func 53) #[] #[]] w fun e w' => e = .returned (.bool (decide (tats T = tats U))) ∧ Below w.heap.size w w' := by
  have hTl : T.length = n := h.1
  have hUl : U.length = m := k.1
  have hnb : n ≤ 9223372036854775807 := Nat.le_trans h.2.1 h.2.2.1
  have HT := Lib.hid h
  have HU := Lib.hid k
  have HTK := Lib.hid hT
  have HUK := Lib.hid hU
  clear h k hT hU
  by_cases hne : n = m
  · have hn1 : ((n : Int) != (m : Int)) = false := by simp; omega
    have HNE := Lib.hid hne
    clear hne
    go_enter Tryz.func52, Tryz.ntmps52
    go_wp2
    go_loopw [7, 8, 9, 17] (fun s7 s8 s9 iv wr => ∃ q : Nat, q ≤ n ∧ iv = .int .i64 q ∧ Hid (∀ j, j < q → atD (tats T) j = atD (tats U) j) ∧ Hid (Below w.heap.size w wr)) (fun _ _ _ iv _ => n - (intOf iv).toNat)
    case atStart => exact ⟨0, Nat.zero_le _, rfl, Lib.hid (fun j hj => absurd hj (Nat.not_lt_zero _)), Lib.hid (Below.refl _ _)⟩
    case round =>
      obtain ⟨q, hq, rfl, HA, HB⟩ := hrel
      by_cases hlt : q < n
      · obtain ⟨b, off, rfl, hblt, _⟩ := HT.out.2.2.2 (by omega)
        obtain ⟨c, off2, rfl, hclt, _⟩ := HU.out.2.2.2 (by have := HNE.out; omega)
        obtain ⟨a0, a1⟩ := ts_at HT.out q hlt
        obtain ⟨b0, b1⟩ := ts_at HU.out q (by have := HNE.out; omega)
        have a0 := cell_later HB.out a0
        have a1 := cell_later HB.out a1
        have b0 := cell_later HB.out b0
        have b1 := cell_later HB.out b1
        have hx1 := HTK.out _ (tr_mem T q (by omega))
        have hy1 := HUK.out _ (tr_mem U q (by have := HNE.out; omega))
        have hx2 := nT _ (tr_mem T q (by omega))
        have hy2 := nU _ (tr_mem U q (by have := HNE.out; omega))
        have HE1 := Lib.hid (atD_tats T q)
        have HE2 := Lib.hid (atD_tats U q)
        obtain ⟨x, hx⟩ : ∃ x, trD T q = x := ⟨_, rfl⟩
        obtain ⟨y, hy⟩ : ∃ x, trD U q = x := ⟨_, rfl⟩
        rw [hx] at a0 a1 hx1 hx2 HE1
        rw [hy] at b0 b1 hy1 hy2 HE2
        clear hx hy
        obtain ⟨p, hd, vs⟩ := x
        obtain ⟨r, he, us⟩ := y
        simp only [] at a0 a1 hx1 hx2 HE1 b0 b1 hy1 hy2 HE2
        obtain ⟨vo, vn, vc, rfl, hv⟩ := hx1
        obtain ⟨uo, un, uc, rfl, hu⟩ := hy1
        have h0 : 0 < vn := by rw [← hv.1]; exact List.length_pos_iff.2 hx2
        have k0 : 0 < un := by rw [← hu.1]; exact List.length_pos_iff.2 hy2
        have d1 : (q : Int) < (n : Int) := by omega
        have d2 : (q : Int) < (m : Int) := by have := HNE.out; omega
        have d0 : (0 : Int) ≤ (q : Int) := by omega
        obtain ⟨W1, hW1⟩ : ∃ x, wr.alloc (.cells #[.string p, .slice vo vn vc] 41) = x := ⟨_, rfl⟩
        obtain ⟨W2, hW2⟩ : ∃ x, W1.alloc (.cells #[.string r, .slice uo un uc] 41) = x := ⟨_, rfl⟩
        have hb1 : Below wr.heap.size wr W1 := by rw [← hW1]; exact (Below.refl _ wr).alloc (Nat.le_refl _) _
        have hb2 : Below W1.heap.size W1 W2 := by rw [← hW2]; exact (Below.refl _ W1).alloc (Nat.le_refl _) _
        have X1 : ABox W1 wr.heap.size p (.slice vo vn vc) := by rw [← hW1]; exact abox_new wr p _
        have X1b : ABox W2 wr.heap.size p (.slice vo vn vc) := ABox.below X1 hb2
        have X2 : ABox W2 W1.heap.size r (.slice uo un uc) := by rw [← hW2]; exact abox_new W1 r _
        have hs1 : W1.heap.size = wr.heap.size + 1 := by rw [← hW1]; simp
        rw [hs1] at X2
        obtain ⟨x0, x1⟩ := X1b.cells
        obtain ⟨y0, y1⟩ := X2.cells
        have b01 := cell_later hb1 b0
        have b11 := cell_later hb1 b1
        have HBW := Lib.hid (HB.out.trans ((hb1.trans (hb2.mono hb1.size)).mono HB.out.size))
        have HV := Lib.hid (hv.below HBW.out)
        have HUU := Lib.hid (hu.below HBW.out)
        have HS := Lib.hid (enEq1_s p r vo uo vn un vc uc vs us W2 HV.out HUU.out h0 k0)
        clear hb1 hb2 X1 X1b X2 hs1 hv hu
        subst hW2
        subst hW1
        obtain ⟨z, hz⟩ : ∃ x, decide (p = r ∧ vs = us) = x := ⟨_, rfl⟩
        rw [hz] at HS
        cases z with
        | true =>
          have HX := Lib.hid (show atD (tats T) q = atD (tats U) q by
            have := of_decide_eq_true hz
            rw [HE1.out, HE2.out, this.1, this.2])
          clear hz
          go_wp2_with fail
          refine HS.out.mono ?_
          rintro e w5 ⟨rfl, hb⟩
          have HB6 := Lib.hid (HBW.out.trans (hb.mono HBW.out.size))
          go_wp2_with fail
          go_roundw
          case rel =>
            refine ⟨q + 1, by omega, by go_num, Lib.hid fun j hj => ?_, HB6⟩
            by_cases e : j = q
            · rw [e]; exact HX.out
            · exact HA.out j (by omega)
          case measure => simp [intOf]; omega
        | false =>
          have HX := Lib.hid (show decide (tats T = tats U) = false from decide_eq_false fun e => of_decide_eq_false hz (by
            have h5 := HE1.out
            rw [e, HE2.out] at h5
            exact ⟨(congrArg Prod.fst h5).symm, (congrArg Prod.snd h5).symm⟩))
          clear hz
          go_wp2_with fail
          refine HS.out.mono ?_
          rintro e w5 ⟨rfl, hb⟩
          have HB6 := Lib.hid (HBW.out.trans (hb.mono HBW.out.size))
          go_wp2_with fail
          go_ret
          exact ⟨by rw [HX.out]; rfl, HB6.out⟩
      · have HX := Lib.hid (show decide (tats T = tats U) = true from decide_eq_true (ats_ext (by rw [tats_len, tats_len]; have := HNE.out; omega) fun j hj => HA.out j (by rw [tats_len] at hj; omega)))
        go_wp2_with fail
        go_ret
        exact ⟨by rw [HX.out]; rfl, HB.out⟩
  · have HX := Lib.hid (show decide (tats T = tats U) = false from decide_eq_false fun e => hne (by rw [← hTl, ← hUl, ← tats_len T, ← tats_len U, e]))
    have hn1 : ((n : Int) != (m : Int)) = true := by simp; omega
    go_enter Tryz.func52, Tryz.ntmps52
    go_wp2_with fail
    go_ret
    exact ⟨by rw [HX.out]; rfl, Below.refl _ _⟩
set_option maxHeartbeats 4000000 in
theorem identical_s (en fn : ByteArray) (ao bo : Option Addr) (n m cap dap : Nat) (l k : List At) (w : World) (h : AttrsAt w ao n cap l) (h' : AttrsAt w bo m dap k) (hl : ∀ a ∈ l, a.2 ≠ []) (hk : ∀ a ∈ k, a.2 ≠ []) :
    Calls Tryz.prog 25 #[.agg #[.string en, .slice ao n cap], .agg #[.string fn, .slice bo m dap]] w fun e w' => e = .returned (.bool (decide (en = fn ∧ l = k))) ∧ Below w.heap.size w w' := by
  have b0 := below_al w (.cells #[.string en, .slice ao n cap] 28)
  have b1 := below_al (w.alloc (.cells #[.string en, .slice ao n cap] 28)) (.cells #[.string fn, .slice bo m dap] 28)
  have HB := Lib.hid (b0.trans (b1.mono b0.size))
  obtain ⟨T, hT, tT, aT⟩ := ats_ts (h.below HB.out)
  obtain ⟨U, hU, tU, aU⟩ := ats_ts (h'.below HB.out)
  have HS := Lib.hid (enEqf_s ao bo n m cap dap T U _ aT aU tT tU (fun t ht => hl (t.1, t.2.2) (by rw [← hT]; exact List.mem_map.2 ⟨t, ht, rfl⟩)) (fun t ht => hk (t.1, t.2.2) (by rw [← hU]; exact List.mem_map.2 ⟨t, ht, rfl⟩)))
  rw [hT, hU] at HS
  clear b0 b1 h h' hT tT aT hU tU aU hl hk
  obtain ⟨z, hz⟩ : ∃ z, decide (en = fn) = z := ⟨_, rfl⟩
  have q1 : (en.toList == fn.toList) = z := by rw [str_eq]; exact hz
  obtain ⟨y, hy⟩ : ∃ y, decide (l = k) = y := ⟨_, rfl⟩
  rw [hy] at HS
  have HD := Lib.hid (show decide (en = fn ∧ l = k) = (z && y) by rw [← hz, ← hy]; exact Bool.decide_and _ _)
  clear hz hy
  go_enter Tryz.func25, Tryz.ntmps25
  cases z
  · go_wp2_with fail
    go_ret
    exact ⟨by rw [HD.out]; rfl, HB.out⟩
  · go_wp2_with fail
    refine HS.out.mono ?_
    rintro e w1 ⟨rfl, hb⟩
    go_wp2_with fail
    go_ret
    exact ⟨by rw [HD.out]; rfl, HB.out.trans (hb.mono HB.out.size)⟩
end Go.Proofs.YtonfkhkalodldabGreatDoor
end

section
/-
  Facts for Apply: a normal name is no attribute's name; attributes stay where a cell of an entry's box is stored; modifications in a slice. No condition.
-/
set_option maxRecDepth 100000
set_option maxRecDepth 100000
namespace Go.Proofs.YtonfkhkalodldabGreatDoor
open Go.RowKit Go.PlainAid
theorem clean_eq61 {s : ByteArray} (h : Nam.cleanV s ≠ ⟨#[]⟩) : (61 : UInt8) ∈ (Nam.cleanV s).data.toList := by
  unfold Nam.cleanV at h ⊢
  by_cases h1 : Nam.parseE s = 0
  · rw [if_pos h1] at h ⊢
    unfold Nam.fmtV at h ⊢
    by_cases h2 : Nam.fmtE (Nam.parseV s) = 0
    · rw [if_pos h2] at h ⊢
      cases e : Nam.parseV s with
      | nil => rw [e] at h; exact absurd rfl h
      | cons p r =>
        have key : (61 : UInt8) ∈ Nam.fmtC p := by unfold Nam.fmtC; simp
        have hb : (61 : UInt8) ∈ Nam.barC ((p :: r).map Nam.fmtC) := by
          cases r with
          | nil => exact key
          | cons q t => rw [List.map_cons, List.map_cons]; exact List.mem_append.2 (.inl key)
        show (61 : UInt8) ∈ (Nam.ofB (Nam.barC ((p :: r).map Nam.fmtC))).data.toList
        rw [Nam.ofB_data]; exact hb
    · rw [if_neg h2] at h; exact absurd rfl h
  · rw [if_neg h1] at h; exact absurd rfl h
theorem clean_no_name {s : ByteArray} (h : Nam.cleanV s ≠ ⟨#[]⟩) : nameB (Nam.cleanV s) = false := by
  cases e : nameB (Nam.cleanV s)
  · rfl
  · exact absurd rfl (Nam.name_bytes e _ (clean_eq61 h)).2.1
theorem two_cell {W : World} {b o : Nat} {c0 c1 x : Value} {t : TypeId} (h : W.heap[b]? = some (.cells #[c0, c1] t)) (hc : W.cell? ⟨b, o, none⟩ = some x) : (o = 0 ∧ x = c0) ∨ (o = 1 ∧ x = c1) := by
  rw [Lib.cell_of_heap h] at hc
  match o, hc with
  | 0, hc => exact .inl ⟨rfl, by simpa using hc.symm⟩
  | 1, hc => exact .inr ⟨rfl, by simpa using hc.symm⟩
  | o + 2, hc => simp at hc
theorem cell_keep1 {W : World} {b g o : Nat} {c0 c1 x : Value} {t : TypeId} (h : W.heap[b]? = some (.cells #[c0, c1] t)) (u : Value) (hc : W.cell? ⟨g, o, none⟩ = some x) (hne : g = b → o ≠ 1) : (W.setCell ⟨b, 1, none⟩ u).cell? ⟨g, o, none⟩ = some x := by
  by_cases e : g = b
  · subst e
    rcases two_cell h hc with ⟨rfl, rfl⟩ | ⟨rfl, _⟩
    · exact heap_cell (Lib.heap_setCell_same h u) rfl
    · exact absurd rfl (hne rfl)
  · rw [← hc]
    exact World.cell?_of_block (a := ⟨g, o, none⟩) (Below.heap_setCell W ⟨b, 1, none⟩ u g e)
theorem cell_keep0 {W : World} {b g o : Nat} {c0 c1 x : Value} {t : TypeId} (h : W.heap[b]? = some (.cells #[c0, c1] t)) (u : Value) (hc : W.cell? ⟨g, o, none⟩ = some x) (hne : g = b → o ≠ 0) : (W.setCell ⟨b, 0, none⟩ u).cell? ⟨g, o, none⟩ = some x := by
  by_cases e : g = b
  · subst e
    rcases two_cell h hc with ⟨rfl, _⟩ | ⟨rfl, rfl⟩
    · exact absurd rfl (hne rfl)
    · exact heap_cell (Lib.heap_setCell_same h u) rfl
  · rw [← hc]
    exact World.cell?_of_block (a := ⟨g, o, none⟩) (Below.heap_setCell W ⟨b, 0, none⟩ u g e)
/-- attributes stay where a slice in a box is stored, if none has the name that stands in the box -/
theorem atts_set {W : World} {b : Nat} {s : ByteArray} {x : Option Addr} {y z : Nat} {t : TypeId} (hW : W.heap[b]? = some (.cells #[.string s, .slice x y z] t)) {ro : Option Addr} {rn rc : Nat} {r : List At} (h : AttrsAt W ro rn rc r) (hs : ∀ a ∈ r, a.1 ≠ s) (u : Value) : AttrsAt (W.setCell ⟨b, 1, none⟩ u) ro rn rc r := by
  obtain ⟨h1, h2, h3, h4⟩ := h
  refine ⟨h1, h2, h3, fun hn => ?_⟩
  obtain ⟨g, off, e, hg, ha⟩ := h4 hn
  refine ⟨g, off, e, by rw [set_size]; exact hg, fun j hj => ?_⟩
  obtain ⟨k0, vo, vn, vc, k1, q1, q2, q3, q4⟩ := ha j hj
  have hne : g ≠ b := fun e => by
    subst e
    rcases two_cell hW k0 with ⟨_, e⟩ | ⟨_, e⟩
    · injection e with e
      exact hs _ (by rw [at_get _ _ (by omega)]; exact List.getElem_mem _) e
    · cases e
  refine ⟨cell_keep1 hW u k0 (fun e => absurd e hne), vo, vn, vc, cell_keep1 hW u k1 (fun e => absurd e hne), q1, q2, q3, fun hv => ?_⟩
  obtain ⟨g', o', e', hg', hc'⟩ := q4 hv
  refine ⟨g', o', e', by rw [set_size]; exact hg', fun i hi => cell_keep1 hW u (hc' i hi) fun e1 e2 => ?_⟩
  subst e1
  rcases two_cell hW (hc' i hi) with ⟨e3, _⟩ | ⟨_, e3⟩
  · omega
  · cases e3
theorem atts_set0 {W : World} {b : Nat} {s : ByteArray} {x : Option Addr} {y z : Nat} {t : TypeId} (hW : W.heap[b]? = some (.cells #[.string s, .slice x y z] t)) {ro : Option Addr} {rn rc : Nat} {r : List At} (h : AttrsAt W ro rn rc r) (hs : ∀ a ∈ r, a.1 ≠ s ∧ s ∉ a.2) (u : Value) : AttrsAt (W.setCell ⟨b, 0, none⟩ u) ro rn rc r := by
  obtain ⟨h1, h2, h3, h4⟩ := h
  refine ⟨h1, h2, h3, fun hn => ?_⟩
  obtain ⟨g, off, e, hg, ha⟩ := h4 hn
  refine ⟨g, off, e, by rw [set_size]; exact hg, fun j hj => ?_⟩
  obtain ⟨k0, vo, vn, vc, k1, q1, q2, q3, q4⟩ := ha j hj
  have hm : atD r j ∈ r := by rw [at_get _ _ (by omega)]; exact List.getElem_mem _
  have hne : g ≠ b := fun e => by
    subst e
    rcases two_cell hW k0 with ⟨_, e⟩ | ⟨_, e⟩
    · injection e with e
      exact (hs _ hm).1 e
    · cases e
  refine ⟨cell_keep0 hW u k0 (fun e => absurd e hne), vo, vn, vc, cell_keep0 hW u k1 (fun e => absurd e hne), q1, q2, q3, fun hv => ?_⟩
  obtain ⟨g', o', e', hg', hc'⟩ := q4 hv
  refine ⟨g', o', e', by rw [set_size]; exact hg', fun i hi => cell_keep0 hW u (hc' i hi) fun e1 e2 => ?_⟩
  subst e1
  rcases two_cell hW (hc' i hi) with ⟨_, e3⟩ | ⟨e3, _⟩
  · injection e3 with e3
    refine (hs _ hm).2 ?_
    rw [← e3]; exact part_mem _ _ hi
  · omega
theorem chk_names {r : List At} (h : chkA r = 0) : ∀ a ∈ r, nameB a.1 = true ∧ a.2 ≠ [] ∧ ∀ v ∈ a.2, cleanB v = true := by
  intro a ha
  obtain ⟨j, hj, rfl⟩ := mem_at ha
  have k := (chk_ok h).each _ ha
  refine ⟨k.1, ?_, k.2.2.clean⟩
  unfold chkA at h
  rw [if_neg (by have := (chk_ok h).len; omega)] at h
  have h2 := firstE_all h j hj
  unfold errA at h2
  intro e
  rw [if_neg (by rw [k.1]; decide)] at h2
  split at h2
  · cases h2
  · rw [e, if_pos (show ([] : List ByteArray).length = 0 from rfl)] at h2; cases h2
/-- the box of a result that is zero: attributes that Check takes stay where both its cells are stored -/
theorem atts_res {W : World} {b : Nat} {t : TypeId} (hW : W.heap[b]? = some (.cells #[.string ⟨#[]⟩, .slice none 0 0] t)) {ro : Option Addr} {rn rc : Nat} {r : List At} (h : AttrsAt W ro rn rc r) (hc : chkA r = 0) {en : ByteArray} (hen : nameB en = false) (u : Value) :
    AttrsAt ((W.setCell ⟨b, 0, none⟩ (.string en)).setCell ⟨b, 1, none⟩ u) ro rn rc r := by
  have k := chk_names hc
  refine atts_set (Lib.heap_setCell_same hW (.string en)) (atts_set0 hW h (fun a ha => ⟨fun e => ?_, fun e => ?_⟩) _) (fun a ha e => ?_) u
  · have := (k a ha).1; rw [e] at this; revert this; decide +kernel
  · have := (k a ha).2.2 _ e; revert this; decide +kernel
  · have := (k a ha).1; rw [e, hen] at this; cases this
/-! ### modifications in a slice -/
def MdAt (w : World) (b off : Nat) (m : Md) : Prop :=
  w.cell? ⟨b, off, none⟩ = some (.int .i64 m.op) ∧ w.cell? ⟨b, off + 1, none⟩ = some (.string m.name) ∧ ∃ vo vn vc, w.cell? ⟨b, off + 2, none⟩ = some (.slice vo vn vc) ∧ StrsAt w vo vn vc m.vs
theorem MdAt.below {w w' : World} {b off : Nat} {m : Md} (h : MdAt w b off m) (hb : Below w.heap.size w w') : MdAt w' b off m := by
  obtain ⟨h0, h1, vo, vn, vc, h2, h3⟩ := h
  exact ⟨cell_later hb h0, cell_later hb h1, vo, vn, vc, cell_later hb h2, h3.below hb⟩
def mdD (l : List Md) (j : Nat) : Md := l.getD j default
def MdsAt (w : World) (ao : Option Addr) (n cap : Nat) (l : List Md) : Prop :=
  l.length = n ∧ n ≤ cap ∧ cap ≤ maxLen ∧ (0 < n → ∃ b off, ao = some ⟨b, off, none⟩ ∧ b < w.heap.size ∧ ∀ j, j < n → MdAt w b (off + j * 3) (mdD l j))
theorem MdsAt.below {w w' : World} {ao : Option Addr} {n cap : Nat} {l : List Md} (h : MdsAt w ao n cap l) (hb : Below w.heap.size w w') : MdsAt w' ao n cap l :=
  ⟨h.1, h.2.1, h.2.2.1, fun hn => by
    obtain ⟨b, off, e, hi, ha⟩ := h.2.2.2 hn
    exact ⟨b, off, e, Nat.lt_of_lt_of_le hi hb.size, fun j hj => (ha j hj).below hb⟩⟩
theorem md_drop {l : List Md} {i : Nat} (h : i < l.length) : l.drop i = mdD l i :: l.drop (i + 1) := by
  rw [List.drop_eq_getElem_cons h]
  congr 1
  unfold mdD
  rw [List.getD_eq_getElem?_getD, List.getElem?_eq_getElem h]; rfl
/-- modifications that are small -/
structure SmM (ms : List Md) : Prop where
  nm : ∀ m ∈ ms, m.name.size ≤ 1100000
  vl : ∀ m ∈ ms, m.vs.length ≤ 1050000
  vs : ∀ m ∈ ms, SmallS m.vs
theorem md_mem {l : List Md} {i : Nat} (h : i < l.length) : mdD l i ∈ l := by
  unfold mdD
  rw [List.getD_eq_getElem?_getD, List.getElem?_eq_getElem h]; exact List.getElem_mem _
/-! ### Apply -/
def apE (T : List Ty) (cs : List Cl) (en : ByteArray) (l : List At) (ms : List Md) : Int :=
  if ¬ (enE T cs en l = 0 ∧ Nam.cleanV en = en ∧ nmL T (nf l) = l) then 2 else if 32 < ms.length then 3 else if (modsR T l ms).2 ≠ 0 then (modsR T l ms).2 else vldE T cs (modsR T l ms).1
def apN (T : List Ty) (cs : List Cl) (en : ByteArray) (l : List At) (ms : List Md) : ByteArray := if apE T cs en l ms = 0 then en else ⟨#[]⟩
def apL (T : List Ty) (cs : List Cl) (en : ByteArray) (l : List At) (ms : List Md) : List At := if apE T cs en l ms = 0 then (modsR T l ms).1 else []
def ApP (T : List Ty) (cs : List Cl) (en : ByteArray) (l : List At) (ms : List Md) (w : World) (e : Ending) (w' : World) : Prop :=
  ∃ v, e = .returned (.tuple #[v, .int .i64 (apE T cs en l ms)]) ∧ EnV w' v (apN T cs en l ms) (apL T cs en l ms) ∧ Below w.heap.size w w'
theorem ApP.no {T : List Ty} {cs : List Cl} {en : ByteArray} {l : List At} {ms : List Md} {w w' : World} {c : Int} (h : apE T cs en l ms = c) (h0 : c ≠ 0) (hb : Below w.heap.size w w') : ApP T cs en l ms w (.returned (.tuple #[.agg #[.string ⟨#[]⟩, .slice none 0 0], .int .i64 c])) w' := by
  subst h
  refine ⟨_, rfl, ?_, hb⟩
  unfold apN apL
  rw [if_neg h0, if_neg h0]
  exact env_nil _
theorem ApP.yes {T : List Ty} {cs : List Cl} {en : ByteArray} {l : List At} {ms : List Md} {w w' : World} {ao : Option Addr} {n cap : Nat} {k : List At} (h : apE T cs en l ms = 0) (hk : (modsR T l ms).1 = k) (ha : AttrsAt w' ao n cap k) (hb : Below w.heap.size w w') :
    ApP T cs en l ms w (.returned (.tuple #[.agg #[.string en, .slice ao n cap], .int .i64 0])) w' := by
  subst hk
  refine ⟨_, by rw [h], ?_, hb⟩
  unfold apN apL
  rw [if_pos h, if_pos h]
  exact ⟨ao, n, cap, rfl, ha⟩
theorem ap_arg {T : List Ty} {cs : List Cl} {en : ByteArray} {l : List At} {ms : List Md} (h : ¬ (enE T cs en l = 0 ∧ Nam.cleanV en = en ∧ nmL T (nf l) = l)) : apE T cs en l ms = 2 := if_pos h
theorem ap_lim {T : List Ty} {cs : List Cl} {en : ByteArray} {l : List At} {ms : List Md} (h : enE T cs en l = 0 ∧ Nam.cleanV en = en ∧ nmL T (nf l) = l) (hm : 32 < ms.length) : apE T cs en l ms = 3 := by
  unfold apE; rw [if_neg (fun k => k h), if_pos hm]
theorem ap_mod {T : List Ty} {cs : List Cl} {en : ByteArray} {l : List At} {ms : List Md} (h : enE T cs en l = 0 ∧ Nam.cleanV en = en ∧ nmL T (nf l) = l) (hm : ¬ 32 < ms.length) {c : Int} {k : List At} (hr : modsR T l ms = (k, c)) (h0 : c ≠ 0) : apE T cs en l ms = c := by
  unfold apE; rw [if_neg (fun k => k h), if_neg hm, hr, if_pos h0]
theorem ap_vld {T : List Ty} {cs : List Cl} {en : ByteArray} {l : List At} {ms : List Md} (h : enE T cs en l = 0 ∧ Nam.cleanV en = en ∧ nmL T (nf l) = l) (hm : ¬ 32 < ms.length) {c : Int} {k : List At} (hr : modsR T l ms = (k, 0)) (hv : vldE T cs k = c) : apE T cs en l ms = c := by
  subst hv
  unfold apE; rw [if_neg (fun k => k h), if_neg hm, hr]; exact if_neg (fun k => k rfl)
theorem en_parts {T : List Ty} {cs : List Cl} {en : ByteArray} {l : List At} (h : enE T cs en l = 0) : Nam.cleanV en ≠ ⟨#[]⟩ ∧ chkA l = 0 ∧ nmE T (nf l) = 0 := by
  unfold enE at h
  by_cases c1 : Nam.cleanE en ≠ 0 ∨ Nam.cleanV en = ⟨#[]⟩
  · rw [if_pos c1] at h; cases h
  · rw [if_neg c1] at h
    by_cases c2 : chkA l = 0
    · rw [if_neg (by simp [c2])] at h
      by_cases c3 : nmE T (nf l) = 0
      · exact ⟨fun k => c1 (.inr k), c2, c3⟩
      · rw [if_pos c3] at h; exact absurd h c3
    · rw [if_pos c2] at h; exact absurd h c2
end Go.Proofs.YtonfkhkalodldabGreatDoor
end
