/-
  Texts of the schema layer and of those beneath it, joined: SchRdC, SchRdT, SchBox, SchAln. Conditions stand at each contract.
-/
import Derived.Deep.RegionLaw
import Derived.Maps.AppendAt
import Derived.Test.YtmmdaegdkikkpaaGreatDoorP13
import Derived.Test.YtmmdaegdkikkpaaGreatDoorP14
set_option linter.unusedVariables false
set_option linter.unusedSimpArgs false
set_option linter.unnecessarySimpa false

section
/-
  Contract of schema's readClass. Condition: words of at most 1000000 bytes.
-/
set_option maxRecDepth 100000
namespace Go.Proofs.YtmmdaegdkikkpaaGreatDoor
open Go.RowKit Go.PlainAid
def supV (s : ByteArray) : ByteArray := if s = dashN then ⟨#[]⟩ else s
def supB (s : ByteArray) : Bool := decide (s = dashN) || nameB s
/-- the class with these words after the first one -/
def rdClass (l : List ByteArray) : Option Cl :=
  if l.length = 4 ∧ nameB (partAt l 0) = true then
    (if supB (partAt l 1) = true ∧ rdListB (partAt l 2) = true ∧ rdListB (partAt l 3) = true then some ⟨partAt l 0, supV (partAt l 1), rdListV (partAt l 2), rdListV (partAt l 3)⟩ else none) else none
def zeroCl : Cl := ⟨⟨#[]⟩, ⟨#[]⟩, [], []⟩
/-- the result's box of readClass -/
structure RK (w W : World) : Prop where
  cb : CB W w.heap.size (.string ⟨#[]⟩) (.string ⟨#[]⟩) (.slice none 0 0) (.slice none 0 0)
  low : Below w.heap.size w W
  big : w.heap.size < W.heap.size
theorem RK.step {w W V : World} (h : RK w W) (hb : Below W.heap.size W V) : RK w V :=
  ⟨h.cb.keep (hb.block _ h.big), h.low.trans (hb.mono (Nat.le_of_lt h.big)), Nat.lt_of_lt_of_le h.big hb.size⟩
theorem rk_new (w : World) : RK w (w.alloc (.cells #[.string ⟨#[]⟩, .string ⟨#[]⟩, .slice none 0 0, .slice none 0 0] 64)) :=
  ⟨cb_new w _ _ _ _ _, (Below.refl _ _).alloc (Nat.le_refl _) _, by simp⟩
set_option maxHeartbeats 8000000 in
theorem readClass_s (ao : Option Addr) (n cap : Nat) (l : List ByteArray) (w : World) (h : StrsAt w ao n cap l) (hz : ∀ s ∈ l, s.size ≤ 1000000) (hm : MaxOk w) (hg : 1 < w.heap.size) :
    Calls Tryz.prog 124 #[.slice ao n cap] w fun e w' => ∃ (d : Cv) (a1 : Option Addr) (p1 q1 : Nat) (a2 : Option Addr) (p2 q2 : Nat), d.hm = .slice a1 p1 q1 ∧ d.hy = .slice a2 p2 q2 ∧ CvOk w' d ∧ d.cl = (rdClass l).getD zeroCl ∧
      e = .returned (.tuple #[.agg #[.string d.cl.name, .string d.cl.super, .slice a1 p1 q1, .slice a2 p2 q2], .bool (rdClass l).isSome]) ∧ (FreshA w.heap.size a1 ∧ FreshA w.heap.size a2) ∧ Below w.heap.size w w' := by
  have HB0 := Lib.hid (rk_new w)
  have hal := (Below.refl w.heap.size w).alloc (Nat.le_refl _) (.cells #[.string ⟨#[]⟩, .string ⟨#[]⟩, .slice none 0 0, .slice none 0 0] 64)
  have HM := Lib.hid hm
  obtain ⟨hl, hcap, hmx, hcells⟩ := h
  unfold maxLen at hmx
  obtain ⟨⟨⟨r0, r1, r2, r3⟩, f0, f1, f2, f3⟩, _, hsz0⟩ := HB0.out
  clear hm
  by_cases h4 : n = 4
  · subst h4
    obtain ⟨b, off, rfl, hb, hc⟩ := hcells (by decide)
    have z0 := cell_later hal (hc 0 (by omega))
    have z1 := cell_later hal (hc 1 (by omega))
    have z2 := cell_later hal (hc 2 (by omega))
    have z3 := cell_later hal (hc 3 (by omega))
    rw [Nat.add_zero] at z0
    have y0 := hz _ (part_mem l 0 (by omega))
    have y1 := hz _ (part_mem l 1 (by omega))
    have y2 := hz _ (part_mem l 2 (by omega))
    have y3 := hz _ (part_mem l 3 (by omega))
    have hE : rdClass l = if nameB (partAt l 0) = true then (if supB (partAt l 1) = true ∧ rdListB (partAt l 2) = true ∧ rdListB (partAt l 3) = true then some ⟨partAt l 0, supV (partAt l 1), rdListV (partAt l 2), rdListV (partAt l 3)⟩ else none) else none := by
      unfold rdClass; simp only [hl, true_and]
    obtain ⟨x0, h0⟩ : ∃ x, partAt l 0 = x := ⟨_, rfl⟩
    obtain ⟨x1, h1⟩ : ∃ x, partAt l 1 = x := ⟨_, rfl⟩
    obtain ⟨x2, h2⟩ : ∃ x, partAt l 2 = x := ⟨_, rfl⟩
    obtain ⟨x3, h3⟩ : ∃ x, partAt l 3 = x := ⟨_, rfl⟩
    rw [h0] at z0 y0
    rw [h1] at z1 y1
    rw [h2] at z2 y2
    rw [h3] at z3 y3
    rw [h0, h1, h2, h3] at hE
    obtain ⟨nb, hnb⟩ : ∃ r, nameB x0 = r := ⟨_, rfl⟩
    obtain ⟨sv, hsv⟩ : ∃ r, supV x1 = r := ⟨_, rfl⟩
    obtain ⟨sb, hsb⟩ : ∃ r, supB x1 = r := ⟨_, rfl⟩
    obtain ⟨mv, hmv⟩ : ∃ r, rdListV x2 = r := ⟨_, rfl⟩
    obtain ⟨mb, hmb⟩ : ∃ r, rdListB x2 = r := ⟨_, rfl⟩
    obtain ⟨yv, hyv⟩ : ∃ r, rdListV x3 = r := ⟨_, rfl⟩
    obtain ⟨yb, hyb⟩ : ∃ r, rdListB x3 = r := ⟨_, rfl⟩
    have HS := Lib.hid (fun W => readSuper_s x1 W y1)
    have HL1 := Lib.hid (fun W (hW : MaxOk W) => readList_s x2 W y2 hW)
    have HL2 := Lib.hid (fun W (hW : MaxOk W) => readList_s x3 W y3 hW)
    rw [show (if x1 = dashN then (⟨#[]⟩ : ByteArray) else x1) = sv from hsv, show (decide (x1 = dashN) || nameB x1) = sb from hsb] at HS
    rw [hmv, hmb] at HL1
    rw [hyv, hyb] at HL2
    rw [hnb, hsv, hsb, hmv, hmb, hyv, hyb] at hE
    have HNb := Lib.hid hnb
    have HE := Lib.hid hE
    have HM0 := Lib.hid (HM.out.below hal hg)
    clear hc hcells h0 h1 h2 h3 hnb hsv hsb hmv hmb hyv hyb hE
    go_enter Tryz.func124, Tryz.ntmps124
    go_wp2_with fail
    refine (name_s x0 _ (by omega)).mono ?_
    rintro e w2 ⟨rfl, rfl⟩
    rw [HNb.out]
    cases nb
    · have HE2 := Lib.hid (show rdClass l = none from HE.out.trans (by simp))
      go_wp2_with fail
      refine bodyPost_ret (v := .tuple #[.agg #[.string ⟨#[]⟩, .string ⟨#[]⟩, .slice none 0 0, .slice none 0 0], .bool false]) (by simp only [results, Tryz.results124]; go_simp) rfl ?_
      refine ⟨zeroCv, none, 0, 0, none, 0, 0, rfl, rfl, ⟨hdr_nil _, hdr_nil _⟩, by rw [HE2.out]; rfl, by rw [HE2.out]; rfl, ⟨(fun b off e => by cases e), (fun b off e => by cases e)⟩, HB0.out.low⟩
    · have HE1 := Lib.hid (show rdClass l = if sb = true ∧ mb = true ∧ yb = true then some ⟨x0, sv, mv, yv⟩ else none from HE.out.trans (if_pos rfl))
      go_wp2_with fail
      refine (HS.out _).mono ?_
      rintro e w3 ⟨rfl, rfl⟩
      go_wp2_with fail
      refine (HL1.out _ HM0.out).mono ?_
      rintro e w4 ⟨a1, p1, q1, rfl, s1, fr1, hb4⟩
      have HB4 := Lib.hid (HB0.out.step hb4)
      have HM4 := Lib.hid (HM0.out.below hb4 (by simp; omega))
      have z0 := cell_later hb4 z0
      have z3 := cell_later hb4 z3
      clear z1 z2 r0 r1 r2 r3 f0 f1 f2 f3 hb4
      obtain ⟨⟨⟨r0, r1, r2, r3⟩, f0, f1, f2, f3⟩, _, hsz4⟩ := HB4.out
      go_wp2_with fail
      refine (HL2.out _ HM4.out).mono ?_
      rintro e w5 ⟨a2, p2, q2, rfl, s2, fr2, hb5⟩
      have HB5 := Lib.hid (HB4.out.step hb5)
      have z0 := cell_later hb5 z0
      have HS5 := Lib.hid (And.intro (s1.below hb5) s2)
      have HFr := Lib.hid (And.intro (show FreshA (w.heap.size + 1) a1 from fun b off e => by have := fr1 b off e; simp at this; omega) (show FreshA (w.heap.size + 1) a2 from fun b off e => by have := fr2 b off e; omega))
      clear fr1 fr2
      clear z3 r0 r1 r2 r3 f0 f1 f2 f3 hb5 s1 s2
      obtain ⟨⟨⟨r0, r1, r2, r3⟩, f0, f1, f2, f3⟩, _, hsz5⟩ := HB5.out
      by_cases hall : sb = true ∧ mb = true ∧ yb = true
      · obtain ⟨rfl, rfl, rfl⟩ := hall
        have HE2 := Lib.hid (show rdClass l = some ⟨x0, sv, mv, yv⟩ from HE1.out.trans (by simp))
        go_wp2_with fail
        refine bodyPost_ret (v := .tuple #[.agg #[.string x0, .string sv, .slice a1 p1 q1, .slice a2 p2 q2], .bool true]) (by simp only [results, Tryz.results124]; go_simp) rfl ?_
        have hgs := grown_set4 w5 w.heap.size (.string x0) (.string sv) (.slice a1 p1 q1) (.slice a2 p2 q2)
        have hkeep : ∀ {ao : Option Addr} {n cap : Nat} {l : List ByteArray}, FreshA (w.heap.size + 1) ao → StrsAt w5 ao n cap l → StrsAt ((((w5.setCell ⟨w.heap.size, 0, none⟩ (.string x0)).setCell ⟨w.heap.size, 1, none⟩ (.string sv)).setCell ⟨w.heap.size, 2, none⟩ (.slice a1 p1 q1)).setCell ⟨w.heap.size, 3, none⟩ (.slice a2 p2 q2)) ao n cap l := fun hf hs =>
          hs.keep hgs.size (fun b off e hb => hgs.block b hb (fun e2 => by have := hf b off e; have := Option.some.inj e2; omega))
        exact ⟨⟨⟨x0, sv, mv, yv⟩, .slice a1 p1 q1, .slice a2 p2 q2⟩, a1, p1, q1, a2, p2, q2, rfl, rfl, ⟨⟨a1, p1, q1, rfl, hkeep HFr.out.1 HS5.out.1⟩, a2, p2, q2, rfl, hkeep HFr.out.2 HS5.out.2⟩, by rw [HE2.out]; rfl, by rw [HE2.out]; rfl, ⟨(fun b off e => Nat.le_of_succ_le (HFr.out.1 b off e)), (fun b off e => Nat.le_of_succ_le (HFr.out.2 b off e))⟩, below_set1 (below_set1 (below_set1 (below_set1 HB5.out.low w.heap.size 0 (Nat.le_refl _) _) w.heap.size 1 (Nat.le_refl _) _) w.heap.size 2 (Nat.le_refl _) _) w.heap.size 3 (Nat.le_refl _) _⟩
      · have HE2 := Lib.hid (show rdClass l = none from HE1.out.trans (if_neg hall))
        cases sb
        · go_wp2_with fail
          refine bodyPost_ret (v := .tuple #[.agg #[.string ⟨#[]⟩, .string ⟨#[]⟩, .slice none 0 0, .slice none 0 0], .bool false]) (by simp only [results, Tryz.results124]; go_simp) rfl ?_
          refine ⟨zeroCv, none, 0, 0, none, 0, 0, rfl, rfl, ⟨hdr_nil _, hdr_nil _⟩, by rw [HE2.out]; rfl, by rw [HE2.out]; rfl, ⟨(fun b off e => by cases e), (fun b off e => by cases e)⟩, below_set1 (below_set1 (below_set1 (below_set1 HB5.out.low w.heap.size 0 (Nat.le_refl _) _) w.heap.size 1 (Nat.le_refl _) _) w.heap.size 2 (Nat.le_refl _) _) w.heap.size 3 (Nat.le_refl _) _⟩
        · cases mb
          · go_wp2_with fail
            refine bodyPost_ret (v := .tuple #[.agg #[.string ⟨#[]⟩, .string ⟨#[]⟩, .slice none 0 0, .slice none 0 0], .bool false]) (by simp only [results, Tryz.results124]; go_simp) rfl ?_
            refine ⟨zeroCv, none, 0, 0, none, 0, 0, rfl, rfl, ⟨hdr_nil _, hdr_nil _⟩, by rw [HE2.out]; rfl, by rw [HE2.out]; rfl, ⟨(fun b off e => by cases e), (fun b off e => by cases e)⟩, below_set1 (below_set1 (below_set1 (below_set1 HB5.out.low w.heap.size 0 (Nat.le_refl _) _) w.heap.size 1 (Nat.le_refl _) _) w.heap.size 2 (Nat.le_refl _) _) w.heap.size 3 (Nat.le_refl _) _⟩
          · cases yb
            · go_wp2_with fail
              refine bodyPost_ret (v := .tuple #[.agg #[.string ⟨#[]⟩, .string ⟨#[]⟩, .slice none 0 0, .slice none 0 0], .bool false]) (by simp only [results, Tryz.results124]; go_simp) rfl ?_
              refine ⟨zeroCv, none, 0, 0, none, 0, 0, rfl, rfl, ⟨hdr_nil _, hdr_nil _⟩, by rw [HE2.out]; rfl, by rw [HE2.out]; rfl, ⟨(fun b off e => by cases e), (fun b off e => by cases e)⟩, below_set1 (below_set1 (below_set1 (below_set1 HB5.out.low w.heap.size 0 (Nat.le_refl _) _) w.heap.size 1 (Nat.le_refl _) _) w.heap.size 2 (Nat.le_refl _) _) w.heap.size 3 (Nat.le_refl _) _⟩
            · exact absurd ⟨rfl, rfl, rfl⟩ hall
  · have HE2 := Lib.hid (show rdClass l = none from if_neg (fun h => h4 (by omega)))
    have d2 : ((n : Int) != 4) = true := by simp; omega
    go_enter Tryz.func124, Tryz.ntmps124
    go_wp2_with fail
    refine bodyPost_ret (v := .tuple #[.agg #[.string ⟨#[]⟩, .string ⟨#[]⟩, .slice none 0 0, .slice none 0 0], .bool false]) (by simp only [results, Tryz.results124]; go_simp) rfl ?_
    refine ⟨zeroCv, none, 0, 0, none, 0, 0, rfl, rfl, ⟨hdr_nil _, hdr_nil _⟩, by rw [HE2.out]; rfl, by rw [HE2.out]; rfl, ⟨(fun b off e => by cases e), (fun b off e => by cases e)⟩, HB0.out.low⟩
end Go.Proofs.YtmmdaegdkikkpaaGreatDoor
end

section
/-
  Contract of schema's readType. Condition: words of at most 1000000 bytes; syntaxWords reads as its five words.
-/
set_option maxRecDepth 100000
namespace Go.Proofs.YtmmdaegdkikkpaaGreatDoor
open Go.RowKit Go.PlainAid
theorem single_eq (s : ByteArray) : (s.toList == ([115, 105, 110, 103, 108, 101] : List UInt8)) = decide (s = singleN) := by
  have h := str_eq s singleN
  rwa [show singleN.toList = ([115, 105, 110, 103, 108, 101] : List UInt8) by rw [Lib.toList_data]; rfl] at h
/-- the type with these words after the first one -/
def rdTy (l : List ByteArray) (sg : Bool) : Option Ty := if rdOk (partAt l 1) = true ∧ nameB (partAt l 0) = true then some ⟨partAt l 0, rdSyn (partAt l 1), sg⟩ else none
def rdType (l : List ByteArray) : Option Ty :=
  if l.length = 2 then rdTy l false else if l.length = 3 ∧ partAt l 2 = singleN then rdTy l true else none
/-- the result's box of readType -/
structure RB (w W : World) : Prop where
  c0 : W.cell? ⟨w.heap.size, 0, none⟩ = some (.string ⟨#[]⟩)
  c1 : W.cell? ⟨w.heap.size, 1, none⟩ = some (.int .i64 0)
  c2 : W.cell? ⟨w.heap.size, 2, none⟩ = some (.bool false)
  f0 : W.frozen? ⟨w.heap.size, 0, none⟩ = false
  f1 : W.frozen? ⟨w.heap.size, 1, none⟩ = false
  f2 : W.frozen? ⟨w.heap.size, 2, none⟩ = false
  low : Below w.heap.size w W
  big : w.heap.size < W.heap.size
theorem RB.step {w W V : World} (h : RB w W) (hb : Below W.heap.size W V) : RB w V :=
  ⟨cell_later hb h.c0, cell_later hb h.c1, cell_later hb h.c2, frozen_later hb h.big h.f0, frozen_later hb h.big h.f1, frozen_later hb h.big h.f2, h.low.trans (hb.mono (Nat.le_of_lt h.big)), Nat.lt_of_lt_of_le h.big hb.size⟩
theorem rb_new (w : World) : RB w (w.alloc (.cells #[.string ⟨#[]⟩, .int .i64 0, .bool false] 62)) := by
  have h : (w.alloc (.cells #[.string ⟨#[]⟩, .int .i64 0, .bool false] 62)).heap[w.heap.size]? = some (.cells #[.string ⟨#[]⟩, .int .i64 0, .bool false] 62 (0, 0)) := heap_alloc_new w _
  exact ⟨heap_cell h rfl, heap_cell h rfl, heap_cell h rfl, heap_frozen h, heap_frozen h, heap_frozen h, (Below.refl _ _).alloc (Nat.le_refl _) _, by simp⟩
set_option maxHeartbeats 8000000 in
theorem readType_s (ao : Option Addr) (n cap : Nat) (l : List ByteArray) (w : World) (h : StrsAt w ao n cap l) (hz : ∀ s ∈ l, s.size ≤ 1000000) (ho : SynOk w) :
    Calls Tryz.prog 123 #[.slice ao n cap] w fun e w' => e = .returned (.tuple #[tyV ((rdType l).getD zeroTy), .bool (rdType l).isSome]) ∧ Below w.heap.size w w' := by
  have HO := Lib.hid ho; clear ho
  have HB0 := Lib.hid (rb_new w)
  have hal := (Below.refl w.heap.size w).alloc (Nat.le_refl _) (.cells #[.string ⟨#[]⟩, .int .i64 0, .bool false] 62)
  obtain ⟨hl, hcap, hmx, hcells⟩ := h
  unfold maxLen at hmx
  have HB00 := HB0.out
  obtain ⟨r0, r1, r2, f0, f1, f2, _, hsz0⟩ := HB00
  by_cases h2 : n = 2
  · subst h2
    obtain ⟨b, off, rfl, hb, hc⟩ := hcells (by decide)
    have z0 := cell_later hal (hc 0 (by omega))
    have z1 := cell_later hal (hc 1 (by omega))
    rw [Nat.add_zero] at z0
    have hx0 : (partAt l 0).size ≤ 1000000000 := Nat.le_trans (hz _ (part_mem l 0 (by omega))) (by decide)
    have hE : rdType l = rdTy l false := if_pos hl
    obtain ⟨x0, h0⟩ : ∃ x, partAt l 0 = x := ⟨_, rfl⟩
    obtain ⟨x1, h1⟩ : ∃ x, partAt l 1 = x := ⟨_, rfl⟩
    rw [h0] at z0 hx0
    rw [h1] at z1
    clear hc hcells r0 r1 r2 f0 f1 f2
    have HS := Lib.hid (readSyntax_s x1 _ (HO.out.below HB0.out.low))
    obtain ⟨rs, hrs⟩ : ∃ r, rdSyn x1 = r := ⟨_, rfl⟩
    obtain ⟨ro, hro⟩ : ∃ r, rdOk x1 = r := ⟨_, rfl⟩
    obtain ⟨nb, hnb⟩ : ∃ r, nameB x0 = r := ⟨_, rfl⟩
    rw [hrs, hro] at HS
    have HE := Lib.hid (show rdType l = if ro = true ∧ nb = true then some ⟨x0, rs, false⟩ else none from hE.trans (by unfold rdTy; rw [h0, h1, hrs, hro, hnb]))
    have HNb := Lib.hid hnb
    clear hrs hro hnb hE
    go_enter Tryz.func123, Tryz.ntmps123
    go_wp2_with fail
    refine HS.out.mono ?_
    rintro e w1 ⟨rfl, hb⟩
    have HB1 := Lib.hid (HB0.out.step hb)
    have y0 := cell_later hb z0
    obtain ⟨r0, r1, r2, f0, f1, f2, _, hsz1⟩ := HB1.out
    clear hb HS z0 z1
    cases ro
    · have HE2 := Lib.hid (show rdType l = none from HE.out.trans (by simp))
      go_wp2_with fail
      refine bodyPost_ret (v := .tuple #[.agg #[.string ⟨#[]⟩, .int .i64 0, .bool false], .bool false]) (by simp only [results, Tryz.results123]; go_simp) rfl ?_
      exact ⟨by rw [HE2.out]; rfl, below_set1 (below_set1 (below_set1 HB1.out.low w.heap.size 0 (Nat.le_refl _) _) w.heap.size 1 (Nat.le_refl _) _) w.heap.size 2 (Nat.le_refl _) _⟩
    · go_wp2_with fail
      refine (name_s x0 _ hx0).mono ?_
      rintro e w2 ⟨rfl, rfl⟩
      rw [HNb.out]
      cases nb
      · have HE2 := Lib.hid (show rdType l = none from HE.out.trans (by simp))
        go_wp2_with fail
        refine bodyPost_ret (v := .tuple #[.agg #[.string ⟨#[]⟩, .int .i64 0, .bool false], .bool false]) (by simp only [results, Tryz.results123]; go_simp) rfl ?_
        exact ⟨by rw [HE2.out]; rfl, below_set1 (below_set1 (below_set1 HB1.out.low w.heap.size 0 (Nat.le_refl _) _) w.heap.size 1 (Nat.le_refl _) _) w.heap.size 2 (Nat.le_refl _) _⟩
      · have HE2 := Lib.hid (show rdType l = some ⟨x0, rs, false⟩ from HE.out.trans (by simp))
        go_wp2_with fail
        refine bodyPost_ret (v := .tuple #[.agg #[.string x0, .int .i64 rs, .bool false], .bool true]) (by simp only [results, Tryz.results123]; go_simp) rfl ?_
        exact ⟨by rw [HE2.out]; rfl, below_set1 (below_set1 (below_set1 HB1.out.low w.heap.size 0 (Nat.le_refl _) _) w.heap.size 1 (Nat.le_refl _) _) w.heap.size 2 (Nat.le_refl _) _⟩
  · by_cases h3 : n = 3
    · subst h3
      obtain ⟨b, off, rfl, hb, hc⟩ := hcells (by decide)
      have z0 := cell_later hal (hc 0 (by omega))
      have z1 := cell_later hal (hc 1 (by omega))
      have z2 := cell_later hal (hc 2 (by omega))
      rw [Nat.add_zero] at z0
      have hx0 : (partAt l 0).size ≤ 1000000000 := Nat.le_trans (hz _ (part_mem l 0 (by omega))) (by decide)
      have hs := single_eq (partAt l 2)
      by_cases h4 : partAt l 2 = singleN
      · rw [decide_eq_true h4] at hs
        have hE : rdType l = rdTy l true := (if_neg (by omega)).trans (if_pos ⟨hl, h4⟩)
        obtain ⟨x0, h0⟩ : ∃ x, partAt l 0 = x := ⟨_, rfl⟩
        obtain ⟨x1, h1⟩ : ∃ x, partAt l 1 = x := ⟨_, rfl⟩
        obtain ⟨x2, h22⟩ : ∃ x, partAt l 2 = x := ⟨_, rfl⟩
        rw [h0] at z0 hx0
        rw [h1] at z1
        rw [h22] at z2 hs
        clear hc hcells r0 r1 r2 f0 f1 f2 h4 h22
        have HS := Lib.hid (readSyntax_s x1 _ (HO.out.below HB0.out.low))
        obtain ⟨rs, hrs⟩ : ∃ r, rdSyn x1 = r := ⟨_, rfl⟩
        obtain ⟨ro, hro⟩ : ∃ r, rdOk x1 = r := ⟨_, rfl⟩
        obtain ⟨nb, hnb⟩ : ∃ r, nameB x0 = r := ⟨_, rfl⟩
        rw [hrs, hro] at HS
        have HE := Lib.hid (show rdType l = if ro = true ∧ nb = true then some ⟨x0, rs, true⟩ else none from hE.trans (by unfold rdTy; rw [h0, h1, hrs, hro, hnb]))
        have HNb := Lib.hid hnb
        clear hrs hro hnb hE
        go_enter Tryz.func123, Tryz.ntmps123
        go_wp2_with fail
        refine HS.out.mono ?_
        rintro e w1 ⟨rfl, hb⟩
        have HB1 := Lib.hid (HB0.out.step hb)
        have y0 := cell_later hb z0
        obtain ⟨r0, r1, r2, f0, f1, f2, _, hsz1⟩ := HB1.out
        clear hb HS z0 z1
        cases ro
        · have HE2 := Lib.hid (show rdType l = none from HE.out.trans (by simp))
          go_wp2_with fail
          refine bodyPost_ret (v := .tuple #[.agg #[.string ⟨#[]⟩, .int .i64 0, .bool false], .bool false]) (by simp only [results, Tryz.results123]; go_simp) rfl ?_
          exact ⟨by rw [HE2.out]; rfl, below_set1 (below_set1 (below_set1 HB1.out.low w.heap.size 0 (Nat.le_refl _) _) w.heap.size 1 (Nat.le_refl _) _) w.heap.size 2 (Nat.le_refl _) _⟩
        · go_wp2_with fail
          refine (name_s x0 _ hx0).mono ?_
          rintro e w2 ⟨rfl, rfl⟩
          rw [HNb.out]
          cases nb
          · have HE2 := Lib.hid (show rdType l = none from HE.out.trans (by simp))
            go_wp2_with fail
            refine bodyPost_ret (v := .tuple #[.agg #[.string ⟨#[]⟩, .int .i64 0, .bool false], .bool false]) (by simp only [results, Tryz.results123]; go_simp) rfl ?_
            exact ⟨by rw [HE2.out]; rfl, below_set1 (below_set1 (below_set1 HB1.out.low w.heap.size 0 (Nat.le_refl _) _) w.heap.size 1 (Nat.le_refl _) _) w.heap.size 2 (Nat.le_refl _) _⟩
          · have HE2 := Lib.hid (show rdType l = some ⟨x0, rs, true⟩ from HE.out.trans (by simp))
            go_wp2_with fail
            refine bodyPost_ret (v := .tuple #[.agg #[.string x0, .int .i64 rs, .bool true], .bool true]) (by simp only [results, Tryz.results123]; go_simp) rfl ?_
            exact ⟨by rw [HE2.out]; rfl, below_set1 (below_set1 (below_set1 HB1.out.low w.heap.size 0 (Nat.le_refl _) _) w.heap.size 1 (Nat.le_refl _) _) w.heap.size 2 (Nat.le_refl _) _⟩
      · rw [decide_eq_false h4] at hs
        have HE2 := Lib.hid (show rdType l = none from (if_neg (by omega)).trans (if_neg (fun h => h4 h.2)))
        obtain ⟨x2, h22⟩ : ∃ x, partAt l 2 = x := ⟨_, rfl⟩
        rw [h22] at z2 hs
        clear hc hcells h4 h22 z0 z1
        go_enter Tryz.func123, Tryz.ntmps123
        go_wp2_with fail
        refine bodyPost_ret (v := .tuple #[.agg #[.string ⟨#[]⟩, .int .i64 0, .bool false], .bool false]) (by simp only [results, Tryz.results123]; go_simp) rfl ?_
        exact ⟨by rw [HE2.out]; rfl, HB0.out.low⟩
    · have HE2 := Lib.hid (show rdType l = none from (if_neg (by omega)).trans (if_neg (fun h => h3 (by omega))))
      have d1 : ((n : Int) == 3) = false := by simp; omega
      have d2 : ((n : Int) != 2) = true := by simp; omega
      go_enter Tryz.func123, Tryz.ntmps123
      go_wp2_with fail
      refine bodyPost_ret (v := .tuple #[.agg #[.string ⟨#[]⟩, .int .i64 0, .bool false], .bool false]) (by simp only [results, Tryz.results123]; go_simp) rfl ?_
      exact ⟨by rw [HE2.out]; rfl, HB0.out.low⟩
end Go.Proofs.YtmmdaegdkikkpaaGreatDoor
end

section
/-
  The schema that is read (SB): its block, two rows of the call's own, the classes' strings apart from them; what an append onto a row does to it.
-/
set_option maxRecDepth 100000
namespace Go.Proofs.YtmmdaegdkikkpaaGreatDoor
open Go.RowKit Go.PlainAid
/-- a slice's strings lie apart from a block and from two rows -/
def FarV (b : Nat) (v vt vc : Value) : Prop := ∀ g off n c, v = .slice (some ⟨g, off, none⟩) n c → 0 < n → b < g ∧ vt.ownBlock ≠ some g ∧ vc.ownBlock ≠ some g
/-- the schema that is read: its block, its two rows, its classes' strings apart from them -/
structure SB (W : World) (b : Nat) (ts : List Ty) (cvs : List Cv) (vt vc : Value) : Prop where
  blk : W.heap[b]? = some (.cells #[vt, vc] 25)
  rowT : W.ownsRow (b + 1) 62 3 vt ts.length (ycells ts)
  rowC : W.ownsRow (b + 1) 64 4 vc cvs.length (ccells cvs)
  apart : vt.ownBlock = none ∨ vt.ownBlock ≠ vc.ownBlock
  ok : ∀ d ∈ cvs, CvOk W d
  far : ∀ d ∈ cvs, FarV b d.hm vt vc ∧ FarV b d.hy vt vc
theorem SB.lt {W : World} {b : Nat} {ts : List Ty} {cvs : List Cv} {vt vc : Value} (h : SB W b ts cvs vt vc) : b < W.heap.size := (Array.getElem?_eq_some_iff.1 h.blk).1
theorem SB.below {W V : World} {b : Nat} {ts : List Ty} {cvs : List Cv} {vt vc : Value} (h : SB W b ts cvs vt vc) (hb : Below W.heap.size W V) : SB V b ts cvs vt vc :=
  ⟨(hb.block _ h.lt).trans h.blk, own_below h.rowT hb, own_below h.rowC hb, h.apart, fun d hd => (h.ok d hd).below hb, h.far⟩
theorem Hdr.keepP {w w' : World} {v : Value} {l : List ByteArray} (h : Hdr w v l) (hs : w.heap.size ≤ w'.heap.size) (hk : ∀ g off n c, v = .slice (some ⟨g, off, none⟩) n c → 0 < n → g < w.heap.size → w'.heap[g]? = w.heap[g]?) : Hdr w' v l := by
  obtain ⟨ao, n, cap, rfl, h1, h2, h3, h4⟩ := h
  refine ⟨ao, n, cap, rfl, h1, h2, h3, fun hn => ?_⟩
  obtain ⟨g, off, rfl, hi⟩ := h4 hn
  refine ⟨g, off, rfl, Nat.lt_of_lt_of_le hi.1 hs, fun j hj => ?_⟩
  rw [← hi.2 j hj]
  exact World.cell?_of_block (a := ⟨g, off + j, none⟩) (hk g off n cap rfl hn hi.1)
theorem Hdr.inW {w : World} {l : List ByteArray} {g off n c : Nat} (h : Hdr w (.slice (some ⟨g, off, none⟩) n c) l) (hn : 0 < n) : g < w.heap.size := by
  obtain ⟨ao, n', cap, e, h1, h2, h3, h4⟩ := h
  simp only [Value.slice.injEq] at e
  obtain ⟨rfl, rfl, rfl⟩ := e
  obtain ⟨g', off', e', hi⟩ := h4 hn
  simp only [Option.some.injEq, Addr.mk.injEq, and_true] at e'
  obtain ⟨rfl, rfl⟩ := e'
  exact hi.1
theorem SB.push_t {W wr w' : World} {b : Nat} {ts : List Ty} {cvs : List Cv} {vt vc v' : Value} {t : Ty} (h : SB W b ts cvs vt vc) (hB : Below W.heap.size W wr) (hg : wr.grownBy w' vt.ownBlock)
    (hrow : w'.ownsRow (b + 1) 62 3 v' (ts.length + 1) (ycells ts ++ tyC t)) (hat : v'.ownBlock = vt.ownBlock ∨ ∃ g, v'.ownBlock = some g ∧ W.heap.size ≤ g) :
    w'.heap[b]? = some (.cells #[vt, vc] 25) ∧ SB (w'.setCell ⟨b, 0, none⟩ v') b (ts ++ [t]) cvs v' vc ∧ Below b W (w'.setCell ⟨b, 0, none⟩ v') := by
  have hlt := h.lt
  have hne : ∀ k, vt.ownBlock = some k → b + 1 ≤ k := fun k e => (h.rowT.lt k e).1
  have hnb : vt.ownBlock ≠ some b := fun e => by have := hne b e; omega
  have G0 : ∀ k, k < W.heap.size → vt.ownBlock ≠ some k → w'.heap[k]? = W.heap[k]? := fun k hk h1 => (hg.block k (Nat.lt_of_lt_of_le hk hB.size) (fun e => h1 e.symm)).trans (hB.block k hk)
  have hblk := (G0 b hlt hnb).trans h.blk
  have G : ∀ k, k < W.heap.size → vt.ownBlock ≠ some k → k ≠ b → (w'.setCell ⟨b, 0, none⟩ v').heap[k]? = W.heap[k]? := fun k hk h1 h2 => (Below.heap_setCell w' ⟨b, 0, none⟩ v' k h2).trans (G0 k hk h1)
  have hsz : W.heap.size ≤ (w'.setCell ⟨b, 0, none⟩ v').heap.size := by
    have := Nat.le_trans hB.size hg.size
    simpa [World.setCell] using this
  have hkeep : ∀ {v : Value} {l : List ByteArray}, Hdr W v l → FarV b v vt vc → Hdr (w'.setCell ⟨b, 0, none⟩ v') v l := fun hh hf => hh.keepP hsz fun g off n c e hn hgl => G g hgl (hf g off n c e hn).2.1 (Nat.ne_of_gt (hf g off n c e hn).1)
  have hfar : ∀ {v : Value} {l : List ByteArray}, Hdr W v l → FarV b v vt vc → FarV b v v' vc := fun hh hf g off n c e hn => by
    obtain ⟨f1, f2, f3⟩ := hf g off n c e hn
    refine ⟨f1, fun e2 => ?_, f3⟩
    rcases hat with hat | ⟨g', hat, hge⟩
    · exact f2 (hat.symm.trans e2)
    · subst e
      have := hh.inW hn
      have := Option.some.inj (hat.symm.trans e2)
      omega
  refine ⟨hblk, ⟨?_, ?_, ?_, ?_, fun d hd => ⟨hkeep (h.ok d hd).1 (h.far d hd).1, hkeep (h.ok d hd).2 (h.far d hd).2⟩, fun d hd => ⟨hfar (h.ok d hd).1 (h.far d hd).1, hfar (h.ok d hd).2 (h.far d hd).2⟩⟩, ?_⟩
  · simp [World.setCell, Array.getElem?_modify, hblk]
  · rw [List.length_append, ycells_snoc]
    exact ownsRow_setCell_below hrow (a := ⟨b, 0, none⟩) (Nat.lt_succ_self b) v'
  · refine ownsRow_setCell_below ((own_below h.rowC hB).kept hg ?_) (a := ⟨b, 0, none⟩) (Nat.lt_succ_self b) v'
    cases hc : vc.ownBlock
    · exact .inl rfl
    · refine .inr fun e => ?_
      rcases h.apart with h1 | h1
      · rw [h1] at e; cases e
      · exact h1 (e.symm.trans hc.symm)
  · rcases hat with hat | ⟨g', hat, hge⟩
    · rw [hat]; exact h.apart
    · refine .inr fun e => ?_
      have := (h.rowC.lt g' (e.symm.trans hat)).2
      omega
  · exact ((hB.mono (Nat.le_of_lt hlt)).grown hg (Nat.le_trans (Nat.le_of_lt hlt) hB.size) (fun k e => by have := hne k e; omega)).setCell (Nat.le_refl _) v'
theorem SB.push_c {W wr w' : World} {b : Nat} {ts : List Ty} {cvs : List Cv} {vt vc v' : Value} {d0 : Cv} (h : SB W b ts cvs vt vc) (hd0 : CvOk W d0) (hf0 : FarV b d0.hm vt vc ∧ FarV b d0.hy vt vc) (hB : Below W.heap.size W wr) (hg : wr.grownBy w' vc.ownBlock)
    (hrow : w'.ownsRow (b + 1) 64 4 v' (cvs.length + 1) (ccells cvs ++ cvC d0)) (hat : v'.ownBlock = vc.ownBlock ∨ ∃ g, v'.ownBlock = some g ∧ W.heap.size ≤ g) :
    w'.heap[b]? = some (.cells #[vt, vc] 25) ∧ SB (w'.setCell ⟨b, 1, none⟩ v') b ts (cvs ++ [d0]) vt v' ∧ Below b W (w'.setCell ⟨b, 1, none⟩ v') := by
  have hlt := h.lt
  have hne : ∀ k, vc.ownBlock = some k → b + 1 ≤ k := fun k e => (h.rowC.lt k e).1
  have hnb : vc.ownBlock ≠ some b := fun e => by have := hne b e; omega
  have G0 : ∀ k, k < W.heap.size → vc.ownBlock ≠ some k → w'.heap[k]? = W.heap[k]? := fun k hk h1 => (hg.block k (Nat.lt_of_lt_of_le hk hB.size) (fun e => h1 e.symm)).trans (hB.block k hk)
  have hblk := (G0 b hlt hnb).trans h.blk
  have G : ∀ k, k < W.heap.size → vc.ownBlock ≠ some k → k ≠ b → (w'.setCell ⟨b, 1, none⟩ v').heap[k]? = W.heap[k]? := fun k hk h1 h2 => (Below.heap_setCell w' ⟨b, 1, none⟩ v' k h2).trans (G0 k hk h1)
  have hsz : W.heap.size ≤ (w'.setCell ⟨b, 1, none⟩ v').heap.size := by
    have := Nat.le_trans hB.size hg.size
    simpa [World.setCell] using this
  have hkeep : ∀ {v : Value} {l : List ByteArray}, Hdr W v l → FarV b v vt vc → Hdr (w'.setCell ⟨b, 1, none⟩ v') v l := fun hh hf => hh.keepP hsz fun g off n c e hn hgl => G g hgl (hf g off n c e hn).2.2 (Nat.ne_of_gt (hf g off n c e hn).1)
  have hfar : ∀ {v : Value} {l : List ByteArray}, Hdr W v l → FarV b v vt vc → FarV b v vt v' := fun hh hf g off n c e hn => by
    obtain ⟨f1, f2, f3⟩ := hf g off n c e hn
    refine ⟨f1, f2, fun e2 => ?_⟩
    rcases hat with hat | ⟨g', hat, hge⟩
    · exact f3 (hat.symm.trans e2)
    · subst e
      have := hh.inW hn
      have := Option.some.inj (hat.symm.trans e2)
      omega
  have hok : ∀ d ∈ cvs ++ [d0], CvOk W d := fun d hd => by
    rcases List.mem_append.1 hd with hd | hd
    · exact h.ok d hd
    · rw [List.mem_singleton.1 hd]; exact hd0
  have hff : ∀ d ∈ cvs ++ [d0], FarV b d.hm vt vc ∧ FarV b d.hy vt vc := fun d hd => by
    rcases List.mem_append.1 hd with hd | hd
    · exact h.far d hd
    · rw [List.mem_singleton.1 hd]; exact hf0
  refine ⟨hblk, ⟨?_, ?_, ?_, ?_, fun d hd => ⟨hkeep (hok d hd).1 (hff d hd).1, hkeep (hok d hd).2 (hff d hd).2⟩, fun d hd => ⟨hfar (hok d hd).1 (hff d hd).1, hfar (hok d hd).2 (hff d hd).2⟩⟩, ?_⟩
  · simp [World.setCell, Array.getElem?_modify, hblk]
  · refine ownsRow_setCell_below ((own_below h.rowT hB).kept hg ?_) (a := ⟨b, 1, none⟩) (Nat.lt_succ_self b) v'
    exact h.apart
  · rw [List.length_append, show ccells (cvs ++ [d0]) = ccells cvs ++ cvC d0 by simp [ccells]]
    exact ownsRow_setCell_below hrow (a := ⟨b, 1, none⟩) (Nat.lt_succ_self b) v'
  · rcases hat with hat | ⟨g', hat, hge⟩
    · rw [hat]; exact h.apart
    · refine .inr fun e => ?_
      have := (h.rowT.lt g' (e.trans hat)).2
      omega
  · exact ((hB.mono (Nat.le_of_lt hlt)).grown hg (Nat.le_trans (Nat.le_of_lt hlt) hB.size) (fun k e => by have := hne k e; omega)).setCell (Nat.le_refl _) v'
/-- append onto an own slice, as one step of a region that draws -/
theorem step_append_own_at {ops : Array Oper} {o : Oper} {a : Act} {w : World} {K : Act → World → Prop} {Q : Exit → Act → World → Prop} {E : Prop} (hgd : o.guard = none) (s x : Operand) (t : TypeId)
    (ho : o.op = .call { callee := .builtin .append, args := #[s, x], argTypes := #[t, t] })
    (base : Nat) (e : TypeId) (i : TypeInfo) (z : Value) (size bytes : Nat) (ht : Tryz.prog.underlying t = some (.slice e)) (hi : Tryz.prog.info? e = some i) (hz : i.zero = some z)
    (hsize : i.size = size) (hby : i.bytes = bytes) (hzs : z.cells.size = size) (hsz : 0 < size)
    (v : Value) (n : Nat) (xs : List Value) (hs : a.eval s = v) (hown : w.ownsRow base e size v n xs)
    (ad : Addr) (m c : Nat) (news : List Value) (hx : a.eval x = .slice (some ad) m c) (hl : news.length = m * size) (hnews : ∀ j u, news[j]? = some u → w.cell? (ad.add j) = some u) (h1 : ∀ u ∈ news, u.oneCell' = true)
    (h63 : n + m ≤ maxLen) (hbytes : (n + m) * bytes ≤ 140737488355328) (hbase : base ≤ w.heap.size)
    (h : ∀ v' w', w'.ownsRow base e size v' (n + m) (xs ++ news) → w.grownBy w' v.ownBlock → (v'.ownBlock = v.ownBlock ∨ v'.ownBlock = some w.heap.size) → K (a.put o.dst v') w') :
    if Region.wanted o (yielded ops a.tmps) = true then Oper.wp Tryz.prog o a w K Q else E := by
  have hw : Region.wanted o (yielded ops a.tmps) = true := by simp [Region.wanted, hgd]
  rw [if_pos hw]
  obtain ⟨v', w', hr, h2, h3, _, h5⟩ := run_append_own_at (P := Tryz.prog) w base t o.type e i z size bytes ht hi hz hsize hby hzs hsz v n xs hown ad m c news hl hnews h1 h63 hbytes hbase
  unfold Oper.wp execOp
  simp only [ho, resolve, invoke, builtin, Sem.run_bind, Sem.run_pure, Result.andThen_ok, List.map_toArray, List.map_cons, List.map_nil, hs, hx, hr]
  exact h v' w' h2 h3 h5
theorem step_push_type {ops : Array Oper} {o : Oper} {a : Act} {K : Act → World → Prop} {Q : Exit → Act → World → Prop} {E : Prop} (wr : World) {base : Nat} {v : Value} {n : Nat} {xs : List Value} (hown : wr.ownsRow base 62 3 v n xs) (s x : Operand)
    (t : Ty) (hgd : o.guard = none)
    (ho : o.op = .call { callee := .builtin .append, args := #[s, x], argTypes := #[22, 22] })
    (hs : a.eval s = v) (hx : a.eval x = .slice (some ⟨wr.heap.size, 0, none⟩) 1 1) (hn : n + 1 ≤ 1000000000) (hbase : base ≤ wr.heap.size)
    (h : ∀ v' w', w'.ownsRow base 62 3 v' (n + 1) (xs ++ tyC t) → (wr.alloc (.cells #[.string t.name, .int .i64 t.syn, .bool t.single] 62)).grownBy w' v.ownBlock → (v'.ownBlock = v.ownBlock ∨ ∃ g, v'.ownBlock = some g ∧ wr.heap.size ≤ g) → K (a.put o.dst v') w') :
    if Region.wanted o (yielded ops a.tmps) = true then Oper.wp Tryz.prog o a (wr.alloc (.cells #[.string t.name, .int .i64 t.syn, .bool t.single] 62)) K Q else E := by
  obtain ⟨i0, hi, hz0, hz1, hz2⟩ := info_parts info_type
  refine step_append_own_at hgd s x 22 ho base 62 i0 (.agg #[.string ⟨#[]⟩, .int .i64 0, .bool false]) 3 32 Tryz.underlying22 hi hz0 hz1 hz2 rfl (by decide) v n xs hs (hown.alloc _) ⟨wr.heap.size, 0, none⟩ 1 1 (tyC t) hx rfl
    (cells_three_new _ _ _ _ _) (by simpa [ycells] using ycells_one [t]) (by unfold maxLen; omega) (by omega) (by simp; omega) ?_
  intro v' w' h1 h2 h4
  refine h v' w' h1 h2 ?_
  rcases h4 with h4 | h4
  · exact .inl h4
  · exact .inr ⟨_, h4, by simp⟩
theorem step_push_class {ops : Array Oper} {o : Oper} {a : Act} {K : Act → World → Prop} {Q : Exit → Act → World → Prop} {E : Prop} (wr : World) {base : Nat} {v : Value} {n : Nat} {xs : List Value} (hown : wr.ownsRow base 64 4 v n xs) (s x : Operand)
    (c : Cv) {w0 : World} (hc : CvOk w0 c) (hgd : o.guard = none)
    (ho : o.op = .call { callee := .builtin .append, args := #[s, x], argTypes := #[23, 23] })
    (hs : a.eval s = v) (hx : a.eval x = .slice (some ⟨wr.heap.size, 0, none⟩) 1 1) (hn : n + 1 ≤ 1000000000) (hbase : base ≤ wr.heap.size)
    (h : ∀ v' w', w'.ownsRow base 64 4 v' (n + 1) (xs ++ cvC c) → (wr.alloc (.cells #[.string c.cl.name, .string c.cl.super, c.hm, c.hy] 64)).grownBy w' v.ownBlock → (v'.ownBlock = v.ownBlock ∨ ∃ g, v'.ownBlock = some g ∧ wr.heap.size ≤ g) → K (a.put o.dst v') w') :
    if Region.wanted o (yielded ops a.tmps) = true then Oper.wp Tryz.prog o a (wr.alloc (.cells #[.string c.cl.name, .string c.cl.super, c.hm, c.hy] 64)) K Q else E := by
  obtain ⟨i0, hi, hz0, hz1, hz2⟩ := info_parts info_class
  refine step_append_own_at hgd s x 23 ho base 64 i0 (.agg #[.string ⟨#[]⟩, .string ⟨#[]⟩, .slice none 0 0, .slice none 0 0]) 4 80 Tryz.underlying23 hi hz0 hz1 hz2 rfl (by decide) v n xs hs (hown.alloc _) ⟨wr.heap.size, 0, none⟩ 1 1 (cvC c) hx rfl
    (cells_four_new _ _ _ _ _ _) (by
      have := ccells_one (w := w0) (l := [c]) (fun d hd => by rw [List.mem_singleton.1 hd]; exact hc)
      simpa [ccells] using this) (by unfold maxLen; omega) (by omega) (by simp; omega) ?_
  intro v' w' h1 h2 h4
  refine h v' w' h1 h2 ?_
  rcases h4 with h4 | h4
  · exact .inl h4
  · exact .inr ⟨_, h4, by simp⟩
theorem row_slice {w : World} {base : Nat} {e : TypeId} {size : Nat} {v : Value} {n : Nat} {xs : List Value} (h : w.ownsRow base e size v n xs) : ∃ ao cap, v = .slice ao n cap := by
  rcases h.2 with ⟨rfl, rfl⟩ | ⟨g, cap, cur, rfl, _⟩
  · exact ⟨_, _, rfl⟩
  · exact ⟨_, _, rfl⟩
theorem FarV.fresh {W : World} {b : Nat} {ts : List Ty} {cvs : List Cv} {vt vc : Value} (h : SB W b ts cvs vt vc) {ao : Option Addr} {n c : Nat} (hf : FreshA W.heap.size ao) : FarV b (.slice ao n c) vt vc := fun g off n' c' e hn => by
  simp only [Value.slice.injEq] at e
  obtain ⟨rfl, _, _⟩ := e
  have hg := hf g off rfl
  refine ⟨by have := h.lt; omega, fun e => by have := (h.rowT.lt g e).2; omega, fun e => by have := (h.rowC.lt g e).2; omega⟩
theorem SB.other {W : World} {b : Nat} {ts : List Ty} {cvs : List Cv} {vt vc : Value} (h : SB W b ts cvs vt vc) (a : Addr) (ha : a.block < b) (u : Value) : SB (W.setCell a u) b ts cvs vt vc := by
  have hsz : W.heap.size ≤ (W.setCell a u).heap.size := by simp [World.setCell]
  have hk : ∀ {v : Value} {l : List ByteArray}, Hdr W v l → FarV b v vt vc → Hdr (W.setCell a u) v l := fun hh hf => hh.keepP hsz fun g off n c e hn hgl => Below.heap_setCell W a u g (by have := (hf g off n c e hn).1; omega)
  exact ⟨(Below.heap_setCell W a u b (by omega)).trans h.blk, ownsRow_setCell_below h.rowT (by omega) u, ownsRow_setCell_below h.rowC (by omega) u, h.apart, fun d hd => ⟨hk (h.ok d hd).1 (h.far d hd).1, hk (h.ok d hd).2 (h.far d hd).2⟩, h.far⟩
theorem SB.reg_t {W w' : World} {b : Nat} {ts : List Ty} {cvs : List Cv} {vt vc v' : Value} {t : Ty} (h : SB W b ts cvs vt vc) (L C : Obj) (hg : ((W.alloc L).drew.alloc C).grownBy w' vt.ownBlock)
    (hrow : w'.ownsRow (b + 1) 62 3 v' (ts.length + 1) (ycells ts ++ tyC t)) (hat : v'.ownBlock = vt.ownBlock ∨ ∃ g, v'.ownBlock = some g ∧ (W.alloc L).drew.heap.size ≤ g) :
    w'.cell? ⟨b, 0, none⟩ = some vt ∧ w'.frozen? ⟨b, 0, none⟩ = false ∧ SB (w'.setCell ⟨b, 0, none⟩ v') b (ts ++ [t]) cvs v' vc ∧ Below b W (w'.setCell ⟨b, 0, none⟩ v') := by
  have hb : Below W.heap.size W ((W.alloc L).drew.alloc C) := ((Below.refl _ _).alloc (Nat.le_refl _) L).drew.alloc (by simp) C
  obtain ⟨p, q, r⟩ := h.push_t hb hg hrow (hat.imp id fun ⟨g, e, hl⟩ => ⟨g, e, Nat.le_trans (by simp) hl⟩)
  exact ⟨heap_cell p rfl, heap_frozen p, q, r⟩
theorem SB.reg_c {W w' : World} {b : Nat} {ts : List Ty} {cvs : List Cv} {vt vc v' : Value} {d0 : Cv} (h : SB W b ts cvs vt vc) (hd0 : CvOk W d0) (hf0 : FarV b d0.hm vt vc ∧ FarV b d0.hy vt vc) (L C : Obj) (hg : ((W.alloc L).drew.alloc C).grownBy w' vc.ownBlock)
    (hrow : w'.ownsRow (b + 1) 64 4 v' (cvs.length + 1) (ccells cvs ++ cvC d0)) (hat : v'.ownBlock = vc.ownBlock ∨ ∃ g, v'.ownBlock = some g ∧ (W.alloc L).drew.heap.size ≤ g) :
    w'.cell? ⟨b, 1, none⟩ = some vc ∧ w'.frozen? ⟨b, 1, none⟩ = false ∧ SB (w'.setCell ⟨b, 1, none⟩ v') b ts (cvs ++ [d0]) vt v' ∧ Below b W (w'.setCell ⟨b, 1, none⟩ v') := by
  have hb : Below W.heap.size W ((W.alloc L).drew.alloc C) := ((Below.refl _ _).alloc (Nat.le_refl _) L).drew.alloc (by simp) C
  obtain ⟨p, q, r⟩ := h.push_c hd0 hf0 hb hg hrow (hat.imp id fun ⟨g, e, hl⟩ => ⟨g, e, Nat.le_trans (by simp) hl⟩)
  exact ⟨heap_cell p rfl, heap_frozen p, q, r⟩
/-- a line read onto a schema -/
def typeW : ByteArray := ⟨[116, 121, 112, 101].toArray⟩
def classW : ByteArray := ⟨[99, 108, 97, 115, 115].toArray⟩
def lineL (ts : List Ty) (cls : List Cl) (s : ByteArray) : Option (List Ty × List Cl) :=
  if partAt (partsB 32 s) 0 = typeW then (match rdType (partsB 32 s).tail with | some t => if cls = [] then some (ts ++ [t], cls) else none | none => none)
  else if partAt (partsB 32 s) 0 = classW then (match rdClass (partsB 32 s).tail with | some c => some (ts, cls ++ [c]) | none => none) else none
theorem lineL_type {ts : List Ty} {cls : List Cl} {s : ByteArray} {t : Ty} {ok : Bool} {ps : List ByteArray} (hp : partsB 32 s = ps) (h0 : partAt ps 0 = typeW) (ht : (rdType ps.tail).getD zeroTy = t) (ho : (rdType ps.tail).isSome = ok) :
    lineL ts cls s = if ok = true ∧ cls = [] then some (ts ++ [t], cls) else none := by
  unfold lineL
  rw [hp, if_pos h0]
  subst ho
  cases h : rdType ps.tail with
  | none => simp
  | some u =>
    rw [h] at ht
    simp only [Option.getD_some] at ht
    subst ht
    simp
theorem lineL_class {ts : List Ty} {cls : List Cl} {s : ByteArray} {c : Cl} {ok : Bool} {ps : List ByteArray} (hp : partsB 32 s = ps) (h0 : partAt ps 0 = classW) (ht : c = (rdClass ps.tail).getD zeroCl) (ho : (rdClass ps.tail).isSome = ok) :
    lineL ts cls s = if ok = true then some (ts, cls ++ [c]) else none := by
  unfold lineL
  rw [hp, if_neg (by rw [h0]; decide), if_pos h0]
  subst ho
  cases h : rdClass ps.tail with
  | none => simp
  | some u =>
    rw [h] at ht
    simp only [Option.getD_some] at ht
    subst ht
    simp
theorem lineL_other {ts : List Ty} {cls : List Cl} {s : ByteArray} {ps : List ByteArray} (hp : partsB 32 s = ps) (h0 : partAt ps 0 ≠ typeW) (h1 : partAt ps 0 ≠ classW) : lineL ts cls s = none := by
  unfold lineL
  rw [hp, if_neg h0, if_neg h1]
/-- what a line leaves -/
def LineP (b : Nat) (ts : List Ty) (cvs : List Cv) (s : ByteArray) (w : World) (e : Ending) (w' : World) : Prop :=
  ∃ ts' cvs' vt' vc', e = .returned (.bool (lineL ts (ccls cvs) s).isSome) ∧ (∀ r, lineL ts (ccls cvs) s = some r → (ts', ccls cvs') = r) ∧ SB w' b ts' cvs' vt' vc' ∧ Below b w w'
theorem LineP.no {b : Nat} {ts ts' : List Ty} {cvs cvs' : List Cv} {s : ByteArray} {w w' : World} {vt' vc' : Value} {l : Option (List Ty × List Cl)} (hl : lineL ts (ccls cvs) s = l) (h0 : l = none) (h : SB w' b ts' cvs' vt' vc') (hb : Below b w w') : LineP b ts cvs s w (.returned (.bool false)) w' :=
  ⟨ts', cvs', vt', vc', (by rw [hl, h0]; rfl), (by rw [hl, h0]; intro r e; cases e), h, hb⟩
theorem LineP.yes {b : Nat} {ts ts' : List Ty} {cvs cvs' : List Cv} {s : ByteArray} {w w' : World} {vt' vc' : Value} {l : Option (List Ty × List Cl)} (hl : lineL ts (ccls cvs) s = l) (h0 : l = some (ts', ccls cvs')) (h : SB w' b ts' cvs' vt' vc') (hb : Below b w w') : LineP b ts cvs s w (.returned (.bool true)) w' :=
  ⟨ts', cvs', vt', vc', (by rw [hl, h0]; rfl), (by rw [hl, h0]; intro r e; exact Option.some.inj e), h, hb⟩
end Go.Proofs.YtmmdaegdkikkpaaGreatDoor
end

section
/-
  Contract of schema's addLine (the schema that is read). Condition: lines of at most 1000000 bytes; the schema lies behind the pointer in a block and two rows of the call's own.
-/
set_option maxRecDepth 100000
namespace Go.Proofs.YtmmdaegdkikkpaaGreatDoor
open Go.RowKit Go.PlainAid
theorem word_eq (s : ByteArray) (l : List UInt8) : (s.toList == l) = decide (s = ⟨l.toArray⟩) := by
  have h := str_eq s ⟨l.toArray⟩
  rwa [show (⟨l.toArray⟩ : ByteArray).toList = l by rw [Lib.toList_data]] at h
theorem StrsAt.tail {w : World} {b off n cap : Nat} {l : List ByteArray} (h : StrsAt w (some ⟨b, off, none⟩) n cap l) (hn : 0 < n) : StrsAt w (some ⟨b, off + 1, none⟩) (n - 1) (cap - 1) l.tail := by
  cases l with
  | nil => have := h.1; simp at this; omega
  | cons p r => exact h.drop
set_option maxHeartbeats 8000000 in
theorem addLine_s (b : Nat) (ts : List Ty) (cvs : List Cv) (vt vc : Value) (s : ByteArray) (w : World) (h : SB w b ts cvs vt vc) (hs : s.size ≤ 1000000) (hm : MaxOk w) (hg : 1 < w.heap.size) (ho : SynOk w) (hn1 : ts.length ≤ 100000000) (hn2 : cvs.length ≤ 100000000) :
    Calls Tryz.prog 64 #[.pointer (some ⟨b, 0, none⟩), .string s] w fun e w' => LineP b ts cvs s w e w' := by
  obtain ⟨ca, cc, rfl, _⟩ := cls_own h.rowC rfl h.ok
  have HC := Lib.hid (splitF_s 32 s w hs hm)
  have hpl := partsB_len 32 s
  have hle := partsB_le 32 s
  have HZ := Lib.hid (fun x (hx : x ∈ partsB 32 s) => Nat.le_trans (partsB_small hx) hs)
  have HSB := Lib.hid h
  have HM := Lib.hid (And.intro hm ho)
  have hblt := h.lt
  obtain ⟨ps, hps⟩ : ∃ ps, partsB 32 s = ps := ⟨_, rfl⟩
  rw [hps] at HC hpl hle HZ
  have HPs := Lib.hid hps
  clear h hm ho hps
  go_enter Tryz.func64, Tryz.ntmps64
  go_wp2_with fail
  refine HC.out.mono ?_
  rintro e w1 ⟨rfl, hS, hb⟩
  have z0 := (hS.2.2.2 (by omega))
  obtain ⟨g, off, e, hg1, hc⟩ := z0
  simp only [Option.some.injEq, Addr.mk.injEq, and_true] at e
  obtain ⟨rfl, rfl⟩ := e
  have hc0 := hc 0 (by omega)
  rw [Nat.zero_add] at hc0
  have HSt := Lib.hid (hS.tail (by omega))
  obtain ⟨k, hk⟩ : ∃ k, ps.length = k + 1 := ⟨ps.length - 1, by omega⟩
  obtain ⟨x0, hx0⟩ : ∃ x, partAt ps 0 = x := ⟨_, rfl⟩
  rw [hx0] at hc0
  have HX0 := Lib.hid hx0
  have HB1 := Lib.hid hb
  have HS1 := Lib.hid (HSB.out.below hb)
  have HM1 := Lib.hid (And.intro (HM.out.1.below hb hg) (HM.out.2.below hb))
  have w0 := word_eq x0 [116, 121, 112, 101]
  have w1' := word_eq x0 [99, 108, 97, 115, 115]
  rw [hk] at HSt hle ⊢
  have HTz := Lib.hid (fun x (hx : x ∈ ps.tail) => HZ.out x (List.mem_of_mem_tail hx))
  have hkl : ps.tail.length = k := by rw [List.length_tail]; omega
  have HSt0 := Lib.hid (show k = 0 → StrsAt w1 (some ⟨w.heap.size, 0, none⟩) 0 0 ps.tail from fun e => ⟨by omega, Nat.le_refl _, by unfold maxLen; omega, fun h => absurd h (Nat.lt_irrefl _)⟩)
  have hs1 : w.heap.size < w1.heap.size := hg1
  have hg2 : 1 < w1.heap.size := by omega
  have HBw := Lib.hid (show Below w.heap.size w w1 from hb)
  clear hS hb hc hx0 HC HM hpl HSB
  by_cases h1 : x0 = (⟨[116, 121, 112, 101].toArray⟩ : ByteArray)
  · rw [decide_eq_true h1] at w0
    have key : ∀ (ao : Option Addr) (cap : Nat), StrsAt w1 ao k cap ps.tail → Calls Tryz.prog 123 #[.slice ao k cap] w1 fun e w' => e = .returned (.tuple #[tyV ((rdType ps.tail).getD zeroTy), .bool (rdType ps.tail).isSome]) ∧ Below w1.heap.size w1 w' := fun ao cap h => readType_s ao k cap ps.tail w1 h HTz.out HM1.out.2
    have HKey := Lib.hid key
    obtain ⟨⟨tn, syn, sg⟩, htt⟩ : ∃ t, (rdType ps.tail).getD zeroTy = t := ⟨_, rfl⟩
    obtain ⟨ok, hok⟩ : ∃ b, (rdType ps.tail).isSome = b := ⟨_, rfl⟩
    have HT := Lib.hid (lineL_type (ts := ts) (cls := ccls cvs) HPs.out (HX0.out.trans h1) htt hok)
    rw [htt, hok] at HKey
    unfold tyV at HKey
    clear key htt hok w1' h1
    rcases Nat.eq_zero_or_pos k with h0 | h0
    · subst h0
      go_wp2_with fail
      refine (HKey.out _ _ (HSt0.out trivial)).mono ?_
      rintro e w2 ⟨rfl, hb⟩
      have HS2 := Lib.hid (HS1.out.below hb)
      have HB2 := Lib.hid (HBw.out.trans (hb.mono (Nat.le_of_lt hs1)))
      obtain ⟨q0, q1⟩ : w2.cell? ⟨b, 0, none⟩ = some vt ∧ w2.cell? ⟨b, 1, none⟩ = some (.slice ca cvs.length cc) := ⟨heap_cell HS2.out.blk rfl, heap_cell HS2.out.blk rfl⟩
      have f0 : w2.frozen? ⟨b, 0, none⟩ = false := heap_frozen HS2.out.blk
      have hb2 : b < w2.heap.size := HS2.out.lt
      have HRow := Lib.hid HS2.out.rowT
      clear hb HKey
      go_wp2_with fail
      go_region_law (refine step_push_type (w2.alloc (.cells #[.string tn, .int .i64 syn, .bool sg] 62)).drew (base := b + 1) (v := vt) (n := ts.length) (xs := ycells ts) (show World.ownsRow _ _ _ _ _ _ _ from HRow.out.alloc _) _ _ ⟨tn, syn, sg⟩ rfl rfl rfl (by simp [Act.eval, Act.put]) (by omega) (by simp; omega) ?_; intro v' w' g1 g2 g3; obtain ⟨ao', cap', rfl⟩ := row_slice g1; obtain ⟨qA, fA, hS3, hB3⟩ := HS2.out.reg_t _ _ g2 g1 g3; have HS3 := Lib.hid hS3; have HB3 := Lib.hid hB3; clear g1 g2 g3 hS3 hB3)
      all_goals
        have q3 : (w'.setCell ⟨b, 0, none⟩ (.slice ao' (ts.length + 1) cap')).cell? ⟨b, 1, none⟩ = some (.slice ca cvs.length cc) := heap_cell HS3.out.blk rfl
        have HBB := Lib.hid ((HB2.out.mono (Nat.le_of_lt hblt)).trans HB3.out)
        clear HB3 HB2 HS2 HRow HS1 HBw HB1
        cases ok
        · go_wp2_with fail
          go_ret
          exact LineP.no (HT.out) (if_neg (by simp)) HS3.out HBB.out
        · by_cases hz : cvs.length = 0
          · have d1 : (cvs.length : Int) = 0 := by omega
            have hcl : ccls cvs = [] := by obtain rfl := List.eq_nil_of_length_eq_zero hz; rfl
            go_wp2_with fail
            go_ret
            exact LineP.yes HT.out (ts' := ts ++ [⟨tn, syn, sg⟩]) (cvs' := cvs) (by rw [hcl]; simp) HS3.out HBB.out
          · have d1 : ¬ (cvs.length : Int) = 0 := by omega
            have d2 : ((cvs.length : Int) == 0) = false := beq_false_of_ne d1
            have hcl : ¬ ccls cvs = [] := fun e => hz (by rw [← ccls_len, e]; rfl)
            go_wp2_with fail
            go_ret
            exact LineP.no HT.out (by simp [hcl]) HS3.out HBB.out
    · go_wp2_with fail
      refine (HKey.out _ _ (HSt.out)).mono ?_
      rintro e w2 ⟨rfl, hb⟩
      have HS2 := Lib.hid (HS1.out.below hb)
      have HB2 := Lib.hid (HBw.out.trans (hb.mono (Nat.le_of_lt hs1)))
      obtain ⟨q0, q1⟩ : w2.cell? ⟨b, 0, none⟩ = some vt ∧ w2.cell? ⟨b, 1, none⟩ = some (.slice ca cvs.length cc) := ⟨heap_cell HS2.out.blk rfl, heap_cell HS2.out.blk rfl⟩
      have f0 : w2.frozen? ⟨b, 0, none⟩ = false := heap_frozen HS2.out.blk
      have hb2 : b < w2.heap.size := HS2.out.lt
      have HRow := Lib.hid HS2.out.rowT
      clear hb HKey
      go_wp2_with fail
      go_region_law (refine step_push_type (w2.alloc (.cells #[.string tn, .int .i64 syn, .bool sg] 62)).drew (base := b + 1) (v := vt) (n := ts.length) (xs := ycells ts) (show World.ownsRow _ _ _ _ _ _ _ from HRow.out.alloc _) _ _ ⟨tn, syn, sg⟩ rfl rfl rfl (by simp [Act.eval, Act.put]) (by omega) (by simp; omega) ?_; intro v' w' g1 g2 g3; obtain ⟨ao', cap', rfl⟩ := row_slice g1; obtain ⟨qA, fA, hS3, hB3⟩ := HS2.out.reg_t _ _ g2 g1 g3; have HS3 := Lib.hid hS3; have HB3 := Lib.hid hB3; clear g1 g2 g3 hS3 hB3)
      all_goals
        have q3 : (w'.setCell ⟨b, 0, none⟩ (.slice ao' (ts.length + 1) cap')).cell? ⟨b, 1, none⟩ = some (.slice ca cvs.length cc) := heap_cell HS3.out.blk rfl
        have HBB := Lib.hid ((HB2.out.mono (Nat.le_of_lt hblt)).trans HB3.out)
        clear HB3 HB2 HS2 HRow HS1 HBw HB1
        cases ok
        · go_wp2_with fail
          go_ret
          exact LineP.no (HT.out) (if_neg (by simp)) HS3.out HBB.out
        · by_cases hz : cvs.length = 0
          · have d1 : (cvs.length : Int) = 0 := by omega
            have hcl : ccls cvs = [] := by obtain rfl := List.eq_nil_of_length_eq_zero hz; rfl
            go_wp2_with fail
            go_ret
            exact LineP.yes HT.out (ts' := ts ++ [⟨tn, syn, sg⟩]) (cvs' := cvs) (by rw [hcl]; simp) HS3.out HBB.out
          · have d1 : ¬ (cvs.length : Int) = 0 := by omega
            have d2 : ((cvs.length : Int) == 0) = false := beq_false_of_ne d1
            have hcl : ¬ ccls cvs = [] := fun e => hz (by rw [← ccls_len, e]; rfl)
            go_wp2_with fail
            go_ret
            exact LineP.no HT.out (by simp [hcl]) HS3.out HBB.out
  · rw [decide_eq_false h1] at w0
    by_cases h2 : x0 = (⟨[99, 108, 97, 115, 115].toArray⟩ : ByteArray)
    · rw [decide_eq_true h2] at w1'
      have HKey := Lib.hid (fun (ao : Option Addr) (cap : Nat) (h : StrsAt w1 ao k cap ps.tail) => readClass_s ao k cap ps.tail w1 h HTz.out HM1.out.1 hg2)
      obtain ⟨ok, hok⟩ : ∃ b, (rdClass ps.tail).isSome = b := ⟨_, rfl⟩
      have HT := Lib.hid (fun c hc => lineL_class (ts := ts) (cls := ccls cvs) (c := c) HPs.out (HX0.out.trans h2) hc hok)
      rw [hok] at HKey
      clear hok h1 h2
      rcases Nat.eq_zero_or_pos k with h0 | h0
      · subst h0
        go_wp2_with fail
        refine (HKey.out _ _ (HSt0.out trivial)).mono ?_
        rintro e w2 ⟨⟨⟨cn, cs, cm, cy⟩, hm0, hy0⟩, a1, p1, q1, a2, p2, q2, rfl, rfl, hcv, hcl, rfl, ⟨fr1, fr2⟩, hb⟩
        have HS2 := Lib.hid (HS1.out.below hb)
        have HD := Lib.hid (And.intro hcv (And.intro (FarV.fresh HS1.out (n := p1) (c := q1) fr1) (FarV.fresh HS1.out (n := p2) (c := q2) fr2)))
        have HCl := Lib.hid hcl
        have HB2 := Lib.hid (HBw.out.trans (hb.mono (Nat.le_of_lt hs1)))
        obtain ⟨q0, q1'⟩ : w2.cell? ⟨b, 0, none⟩ = some vt ∧ w2.cell? ⟨b, 1, none⟩ = some (.slice ca cvs.length cc) := ⟨heap_cell HS2.out.blk rfl, heap_cell HS2.out.blk rfl⟩
        have f0 : w2.frozen? ⟨b, 1, none⟩ = false := heap_frozen HS2.out.blk
        have hb2 : b < w2.heap.size := HS2.out.lt
        have HRow := Lib.hid HS2.out.rowC
        clear hb HKey fr1 fr2 hcv hcl
        go_wp2_with fail
        go_region_law (refine step_push_class (w2.alloc (.cells #[.string cn, .string cs, .slice a1 p1 q1, .slice a2 p2 q2] 64)).drew (base := b + 1) (v := .slice ca cvs.length cc) (n := cvs.length) (xs := ccells cvs) (show World.ownsRow _ _ _ _ _ _ _ from HRow.out.alloc _) _ _ ⟨⟨cn, cs, cm, cy⟩, .slice a1 p1 q1, .slice a2 p2 q2⟩ HD.out.1 rfl rfl rfl (by simp [Act.eval, Act.put]) (by omega) (by simp; omega) ?_; intro v' w' g1 g2 g3; obtain ⟨ao', cap', rfl⟩ := row_slice g1; obtain ⟨qA, fA, hS3, hB3⟩ := HS2.out.reg_c HD.out.1 HD.out.2 _ _ g2 g1 g3; have HS3 := Lib.hid hS3; have HB3 := Lib.hid hB3; clear g1 g2 g3 hS3 hB3)
        all_goals
          have HBB := Lib.hid ((HB2.out.mono (Nat.le_of_lt hblt)).trans HB3.out)
          clear HB3 HB2 HS2 HRow HS1 HBw HB1
          cases ok
          · go_wp2_with fail
            go_ret
            exact LineP.no (HT.out _ HCl.out) (if_neg (by simp)) HS3.out HBB.out
          · go_wp2_with fail
            go_ret
            exact LineP.yes (HT.out _ HCl.out) (ts' := ts) (cvs' := cvs ++ [⟨⟨cn, cs, cm, cy⟩, .slice a1 p1 q1, .slice a2 p2 q2⟩]) (by simp [ccls]) HS3.out HBB.out
      · go_wp2_with fail
        refine (HKey.out _ _ (HSt.out)).mono ?_
        rintro e w2 ⟨⟨⟨cn, cs, cm, cy⟩, hm0, hy0⟩, a1, p1, q1, a2, p2, q2, rfl, rfl, hcv, hcl, rfl, ⟨fr1, fr2⟩, hb⟩
        have HS2 := Lib.hid (HS1.out.below hb)
        have HD := Lib.hid (And.intro hcv (And.intro (FarV.fresh HS1.out (n := p1) (c := q1) fr1) (FarV.fresh HS1.out (n := p2) (c := q2) fr2)))
        have HCl := Lib.hid hcl
        have HB2 := Lib.hid (HBw.out.trans (hb.mono (Nat.le_of_lt hs1)))
        obtain ⟨q0, q1'⟩ : w2.cell? ⟨b, 0, none⟩ = some vt ∧ w2.cell? ⟨b, 1, none⟩ = some (.slice ca cvs.length cc) := ⟨heap_cell HS2.out.blk rfl, heap_cell HS2.out.blk rfl⟩
        have f0 : w2.frozen? ⟨b, 1, none⟩ = false := heap_frozen HS2.out.blk
        have hb2 : b < w2.heap.size := HS2.out.lt
        have HRow := Lib.hid HS2.out.rowC
        clear hb HKey fr1 fr2 hcv hcl
        go_wp2_with fail
        go_region_law (refine step_push_class (w2.alloc (.cells #[.string cn, .string cs, .slice a1 p1 q1, .slice a2 p2 q2] 64)).drew (base := b + 1) (v := .slice ca cvs.length cc) (n := cvs.length) (xs := ccells cvs) (show World.ownsRow _ _ _ _ _ _ _ from HRow.out.alloc _) _ _ ⟨⟨cn, cs, cm, cy⟩, .slice a1 p1 q1, .slice a2 p2 q2⟩ HD.out.1 rfl rfl rfl (by simp [Act.eval, Act.put]) (by omega) (by simp; omega) ?_; intro v' w' g1 g2 g3; obtain ⟨ao', cap', rfl⟩ := row_slice g1; obtain ⟨qA, fA, hS3, hB3⟩ := HS2.out.reg_c HD.out.1 HD.out.2 _ _ g2 g1 g3; have HS3 := Lib.hid hS3; have HB3 := Lib.hid hB3; clear g1 g2 g3 hS3 hB3)
        all_goals
          have HBB := Lib.hid ((HB2.out.mono (Nat.le_of_lt hblt)).trans HB3.out)
          clear HB3 HB2 HS2 HRow HS1 HBw HB1
          cases ok
          · go_wp2_with fail
            go_ret
            exact LineP.no (HT.out _ HCl.out) (if_neg (by simp)) HS3.out HBB.out
          · go_wp2_with fail
            go_ret
            exact LineP.yes (HT.out _ HCl.out) (ts' := ts) (cvs' := cvs ++ [⟨⟨cn, cs, cm, cy⟩, .slice a1 p1 q1, .slice a2 p2 q2⟩]) (by simp [ccls]) HS3.out HBB.out
    · rw [decide_eq_false h2] at w1'
      have HT := Lib.hid (lineL_other (ts := ts) (cls := ccls cvs) HPs.out (fun e => h1 (HX0.out.symm.trans e)) (fun e => h2 (HX0.out.symm.trans e)))
      clear h1 h2
      go_wp2_with fail
      go_ret
      exact LineP.no HT.out rfl HS1.out (HBw.out.mono (Nat.le_of_lt hblt))
end Go.Proofs.YtmmdaegdkikkpaaGreatDoor
end
