/-
  Texts of the schema layer and of those beneath it, joined: SchClR, SchPaW, SchPaR. Conditions stand at each contract.
-/
import Derived.Deep.DeepCutAuto
import Derived.Test.YtmmdaegdkikkpaaGreatDoorP15
import Derived.Test.YtmmdaegdkikkpaaGreatDoorP16
import Derived.Test.YtmmdaegdkikkpaaGreatDoorP20
set_option linter.unusedVariables false
set_option linter.unusedSimpArgs false
set_option linter.unnecessarySimpa false

section
/-
  Contract of the specification's classLine. Condition: words of at most 1000000 bytes.
-/
set_option maxRecDepth 100000
namespace Go.Proofs.YtmmdaegdkikkpaaGreatDoor
open Go.RowKit Go.PlainAid
/-- the class of a line's words -/
def clLn (ps : List ByteArray) : Option Cl := if partAt ps 0 = classW then rdClass ps.tail else none
theorem dash_ne (s : ByteArray) : (s.toList != ([45] : List UInt8)) = !decide (s = dashN) := by unfold bne; rw [dash_eq]
theorem clLn_len {ps : List ByteArray} (h : ps.length ≠ 5) : clLn ps = none := by
  unfold clLn rdClass
  split
  · exact if_neg (fun k => h (by have := k.1; rw [List.length_tail] at this; omega))
  · rfl
theorem clLn_at {ps : List ByteArray} (h : ps.length = 5) (h0 : partAt ps 0 = classW) : clLn ps = if nameB (partAt ps 1) = true then (if supB (partAt ps 2) = true ∧ rdListB (partAt ps 3) = true ∧ rdListB (partAt ps 4) = true then some ⟨partAt ps 1, supV (partAt ps 2), rdListV (partAt ps 3), rdListV (partAt ps 4)⟩ else none) else none := by
  unfold clLn rdClass
  rw [if_pos h0, part_tail, part_tail, part_tail, part_tail]
  have hl : ps.tail.length = 4 := by rw [List.length_tail]; omega
  simp only [hl, true_and]
theorem strs_kept {W : World} {b : Nat} {x y u v : Value} {ao : Option Addr} {n cap : Nat} {l : List ByteArray} (hf : FreshA (b + 1) ao) (hs : StrsAt W ao n cap l) :
    StrsAt ((((W.setCell ⟨b, 0, none⟩ x).setCell ⟨b, 1, none⟩ y).setCell ⟨b, 2, none⟩ u).setCell ⟨b, 3, none⟩ v) ao n cap l :=
  hs.keep (grown_set4 W b x y u v).size (fun c off e hb => (grown_set4 W b x y u v).block c hb (fun e2 => by have := hf c off e; have := Option.some.inj e2; omega))
/-- what classLine returns -/
def ClnP (ps : List ByteArray) (w : World) (e : Ending) (w' : World) : Prop :=
  ∃ (d : Cv) (a1 : Option Addr) (p1 q1 : Nat) (a2 : Option Addr) (p2 q2 : Nat), d.hm = .slice a1 p1 q1 ∧ d.hy = .slice a2 p2 q2 ∧ CvOk w' d ∧ (∀ c, clLn ps = some c → d.cl = c) ∧
      e = .returned (.tuple #[.agg #[.string d.cl.name, .string d.cl.super, .slice a1 p1 q1, .slice a2 p2 q2], .bool (clLn ps).isSome]) ∧ (FreshA w.heap.size a1 ∧ FreshA w.heap.size a2) ∧ Below w.heap.size w w'
set_option maxHeartbeats 16000000 in
theorem classLine7_s (ao : Option Addr) (n cap : Nat) (ps : List ByteArray) (w : World) (h : StrsAt w ao n cap ps) (hz : ∀ s ∈ ps, s.size ≤ 1000000) :
    Calls Tryz.prog 67 #[.slice ao n cap] w fun e w' => ClnP ps w e w' := by
  have HB0 := Lib.hid (rk_new w)
  have hal := (Below.refl w.heap.size w).alloc (Nat.le_refl _) (.cells #[.string ⟨#[]⟩, .string ⟨#[]⟩, .slice none 0 0, .slice none 0 0] 64)
  obtain ⟨hl, hcap, hmx, hcells⟩ := h
  unfold maxLen at hmx
  obtain ⟨⟨⟨r0, r1, r2, r3⟩, f0, f1, f2, f3⟩, _, hsz0⟩ := HB0.out
  by_cases h5 : n = 5
  · subst h5
    obtain ⟨b, off, rfl, hb, hc⟩ := hcells (by decide)
    have z0 := cell_later hal (hc 0 (by omega))
    have s0 := hz _ (part_mem ps 0 (by omega))
    have z1 := cell_later hal (hc 1 (by omega))
    have s1 := hz _ (part_mem ps 1 (by omega))
    have z2 := cell_later hal (hc 2 (by omega))
    have s2 := hz _ (part_mem ps 2 (by omega))
    have z3 := cell_later hal (hc 3 (by omega))
    have s3 := hz _ (part_mem ps 3 (by omega))
    have z4 := cell_later hal (hc 4 (by omega))
    have s4 := hz _ (part_mem ps 4 (by omega))
    rw [Nat.add_zero] at z0
    have w0 := word_eq (partAt ps 0) [99, 108, 97, 115, 115]
    have v0 := word_ne (partAt ps 0) [99, 108, 97, 115, 115]
    have w2 := dash_eq (partAt ps 2)
    have v2 := dash_ne (partAt ps 2)
    have hE := fun (h : partAt ps 0 = classW) => clLn_at hl h
    have hEn : partAt ps 0 ≠ classW → clLn ps = none := fun h => if_neg h
    obtain ⟨x0, h0⟩ : ∃ x, partAt ps 0 = x := ⟨_, rfl⟩
    obtain ⟨x1, h1⟩ : ∃ x, partAt ps 1 = x := ⟨_, rfl⟩
    obtain ⟨x2, h2⟩ : ∃ x, partAt ps 2 = x := ⟨_, rfl⟩
    obtain ⟨x3, h3⟩ : ∃ x, partAt ps 3 = x := ⟨_, rfl⟩
    obtain ⟨x4, h4⟩ : ∃ x, partAt ps 4 = x := ⟨_, rfl⟩
    rw [h0] at z0 s0 w0 v0
    simp only [h0] at hE hEn
    rw [h1] at z1 s1
    rw [h2] at z2 s2 w2 v2
    rw [h3] at z3 s3
    rw [h4] at z4 s4
    simp only [h1, h2, h3, h4] at hE
    clear h0 h1 h2 h3 h4 hc hcells hz
    have HN1 := Lib.hid (fun W => rName_s x1 W (by omega))
    have HN2 := Lib.hid (fun W => rName_s x2 W (by omega))
    have HL1 := Lib.hid (fun W => names7_s x3 W s3)
    have HL2 := Lib.hid (fun W => names7_s x4 W s4)
    have HSb := Lib.hid (show supB x2 = (decide (x2 = dashN) || nameB x2) from rfl)
    have HSv := Lib.hid (show supV x2 = if x2 = dashN then ⟨#[]⟩ else x2 from rfl)
    obtain ⟨nb, hnb⟩ : ∃ r, nameB x1 = r := ⟨_, rfl⟩
    obtain ⟨sb, hsb⟩ : ∃ r, nameB x2 = r := ⟨_, rfl⟩
    obtain ⟨mv, hmv⟩ : ∃ r, rdListV x3 = r := ⟨_, rfl⟩
    obtain ⟨mb, hmb⟩ : ∃ r, rdListB x3 = r := ⟨_, rfl⟩
    obtain ⟨yv, hyv⟩ : ∃ r, rdListV x4 = r := ⟨_, rfl⟩
    obtain ⟨yb, hyb⟩ : ∃ r, rdListB x4 = r := ⟨_, rfl⟩
    rw [hnb] at HN1
    rw [hsb] at HN2 HSb
    rw [hmv, hmb] at HL1
    rw [hyv, hyb] at HL2
    simp only [hnb, hmv, hmb, hyv, hyb] at hE
    have HE0 := Lib.hid hE
    have HEn := Lib.hid hEn
    clear hnb hsb hmv hmb hyv hyb hE hEn
    go_enter Tryz.func67, Tryz.ntmps67
    by_cases h0 : x0 = classW
    · rw [show decide (x0 = ⟨([99, 108, 97, 115, 115] : List UInt8).toArray⟩) = true from decide_eq_true h0] at w0 v0
      rw [Bool.not_true] at v0
      have HE1 := Lib.hid (HE0.out h0)
      clear h0 HE0 HEn
      cases nb
      · have HEa := Lib.hid (show clLn ps = none from HE1.out.trans (by simp))
        go_wp2_with fail
        refine (HN1.out _).mono ?_
        rintro e w2 ⟨rfl, rfl⟩
        have HE := Lib.hid (show clLn ps = none from HEa.out)
        go_wp2_with fail
        refine bodyPost_ret (v := .tuple #[.agg #[.string ⟨#[]⟩, .string ⟨#[]⟩, .slice none 0 0, .slice none 0 0], .bool false]) (by simp only [results, Tryz.results67]; go_simp) rfl ?_
        unfold ClnP
        exact ⟨zeroCv, none, 0, 0, none, 0, 0, rfl, rfl, ⟨hdr_nil _, hdr_nil _⟩, (fun c h => by rw [HE.out] at h; cases h), by rw [HE.out]; rfl, ⟨(fun b off e => by cases e), (fun b off e => by cases e)⟩, HB0.out.low⟩
      · have HE2 := Lib.hid (show clLn ps = if supB x2 = true ∧ mb = true ∧ yb = true then some ⟨x1, supV x2, mv, yv⟩ else none from HE1.out.trans (if_pos rfl))
        clear HE1
        go_wp2_with fail
        refine (HN1.out _).mono ?_
        rintro e w2 ⟨rfl, rfl⟩
        by_cases hd : x2 = dashN
        · rw [decide_eq_true hd] at w2 v2
          rw [Bool.not_true] at v2
          have HE3 := Lib.hid (show clLn ps = if mb = true ∧ yb = true then some ⟨x1, ⟨#[]⟩, mv, yv⟩ else none from HE2.out.trans (by rw [HSb.out, HSv.out, if_pos hd, decide_eq_true hd]; simp))
          clear hd HE2 HSb HSv
          go_wp2_with fail
          refine (HL1.out _).mono ?_
          rintro e w4 ⟨a1, p1, q1, rfl, t1, fr1, hb4⟩
          have HB4 := Lib.hid (HB0.out.step hb4)
          have z1 := cell_later hb4 z1
          have z2 := cell_later hb4 z2
          have z4 := cell_later hb4 z4
          clear z0 z3 r0 r1 r2 r3 f0 f1 f2 f3 hb4
          obtain ⟨⟨⟨r0, r1, r2, r3⟩, f0, f1, f2, f3⟩, _, hsz4⟩ := HB4.out
          go_wp2_with fail
          refine (HL2.out _).mono ?_
          rintro e w5 ⟨a2, p2, q2, rfl, t2, fr2, hb5⟩
          have HB5 := Lib.hid (HB4.out.step hb5)
          have z1 := cell_later hb5 z1
          have z2 := cell_later hb5 z2
          have HS5 := Lib.hid (And.intro (t1.below hb5) t2)
          have HFr := Lib.hid (And.intro (show FreshA (w.heap.size + 1) a1 from fun b off e => by have := fr1 b off e; simp at this; omega) (show FreshA (w.heap.size + 1) a2 from fun b off e => by have := fr2 b off e; omega))
          clear fr1 fr2 z4 r0 r1 r2 r3 f0 f1 f2 f3 hb5 t1 t2
          obtain ⟨⟨⟨r0, r1, r2, r3⟩, f0, f1, f2, f3⟩, _, hsz5⟩ := HB5.out
          go_upto_region 6 with fail
          have hbl := below_al w5 (.cells #[.string x1, .string ⟨#[]⟩, .slice a1 p1 q1, .slice a2 p2 q2] 64)
          have HB6 := Lib.hid (HB5.out.step hbl)
          have z2 := cell_later hbl z2
          have HK8 : Hid (Kb (w5.alloc (.cells #[.string x1, .string ⟨#[]⟩, .slice a1 p1 q1, .slice a2 p2 q2] 64)) w5.heap.size (.cells #[.string x1, .string ⟨#[]⟩, .slice a1 p1 q1, .slice a2 p2 q2] 64)) := Lib.hid (kbl_new _ _)
          have HB7 := Lib.hid (HB5.out.step hbl)
          have HS7 := Lib.hid (And.intro (HS5.out.1.below hbl) (HS5.out.2.below hbl))
          have hlt8 := hsz5
          clear hbl z1 r0 r1 r2 r3 f0 f1 f2 f3
          obtain ⟨b8, hb8⟩ : ∃ x, w5.heap.size = x := ⟨_, rfl⟩
          rw [hb8] at HK8 hlt8 ⊢
          clear hb8
          generalize w5.alloc (.cells #[.string x1, .string ⟨#[]⟩, .slice a1 p1 q1, .slice a2 p2 q2] 64) = W6 at HB6 HB7 HS7 HK8 z2 ⊢
          obtain ⟨⟨⟨r0, r1, r2, r3⟩, f0, f1, f2, f3⟩, _, hsz6⟩ := HB6.out
          have k0 : W6.cell? ⟨b8, 0, none⟩ = some (.string x1) := HK8.out.cell rfl
          have k1 : W6.cell? ⟨b8, 1, none⟩ = some (.string ⟨#[]⟩) := HK8.out.cell rfl
          have k2 : W6.cell? ⟨b8, 2, none⟩ = some (.slice a1 p1 q1) := HK8.out.cell rfl
          have k3 : W6.cell? ⟨b8, 3, none⟩ = some (.slice a2 p2 q2) := HK8.out.cell rfl
          have g1 : W6.frozen? ⟨b8, 1, none⟩ = false := heap_frozen HK8.out
          have hne : b8 ≠ w.heap.size := by omega
          have hne2 : w.heap.size ≠ b8 := by omega
          have HBa := Lib.hid (below_set1 (below_set1 (below_set1 (below_set1 HB7.out.low w.heap.size 0 (Nat.le_refl _) (.string x1)) w.heap.size 1 (Nat.le_refl _) (.string ⟨#[]⟩)) w.heap.size 2 (Nat.le_refl _) (.slice a1 p1 q1)) w.heap.size 3 (Nat.le_refl _) (.slice a2 p2 q2))
          have HKa := Lib.hid (And.intro (strs_kept (x := .string x1) (y := .string ⟨#[]⟩) (u := .slice a1 p1 q1) (v := .slice a2 p2 q2) HFr.out.1 HS7.out.1) (strs_kept (x := .string x1) (y := .string ⟨#[]⟩) (u := .slice a1 p1 q1) (v := .slice a2 p2 q2) HFr.out.2 HS7.out.2))
          cases mb <;> cases yb
          · have HE := Lib.hid (show clLn ps = none from HE3.out.trans (by simp))
            go_wp2_with fail
            refine bodyPost_ret (v := .tuple #[.agg #[.string x1, .string ⟨#[]⟩, .slice a1 p1 q1, .slice a2 p2 q2], .bool false]) (by simp only [results, Tryz.results67]; go_simp) rfl ?_
            unfold ClnP
            exact ⟨⟨⟨x1, ⟨#[]⟩, mv, yv⟩, .slice a1 p1 q1, .slice a2 p2 q2⟩, a1, p1, q1, a2, p2, q2, rfl, rfl, ⟨⟨a1, p1, q1, rfl, HKa.out.1⟩, a2, p2, q2, rfl, HKa.out.2⟩, (fun c h => by rw [HE.out] at h; cases h), by rw [HE.out]; rfl, ⟨(fun b off e => Nat.le_of_succ_le (HFr.out.1 b off e)), (fun b off e => Nat.le_of_succ_le (HFr.out.2 b off e))⟩, HBa.out⟩
          · have HE := Lib.hid (show clLn ps = none from HE3.out.trans (by simp))
            go_wp2_with fail
            refine bodyPost_ret (v := .tuple #[.agg #[.string x1, .string ⟨#[]⟩, .slice a1 p1 q1, .slice a2 p2 q2], .bool false]) (by simp only [results, Tryz.results67]; go_simp) rfl ?_
            unfold ClnP
            exact ⟨⟨⟨x1, ⟨#[]⟩, mv, yv⟩, .slice a1 p1 q1, .slice a2 p2 q2⟩, a1, p1, q1, a2, p2, q2, rfl, rfl, ⟨⟨a1, p1, q1, rfl, HKa.out.1⟩, a2, p2, q2, rfl, HKa.out.2⟩, (fun c h => by rw [HE.out] at h; cases h), by rw [HE.out]; rfl, ⟨(fun b off e => Nat.le_of_succ_le (HFr.out.1 b off e)), (fun b off e => Nat.le_of_succ_le (HFr.out.2 b off e))⟩, HBa.out⟩
          · have HE := Lib.hid (show clLn ps = none from HE3.out.trans (by simp))
            go_wp2_with fail
            refine bodyPost_ret (v := .tuple #[.agg #[.string x1, .string ⟨#[]⟩, .slice a1 p1 q1, .slice a2 p2 q2], .bool false]) (by simp only [results, Tryz.results67]; go_simp) rfl ?_
            unfold ClnP
            exact ⟨⟨⟨x1, ⟨#[]⟩, mv, yv⟩, .slice a1 p1 q1, .slice a2 p2 q2⟩, a1, p1, q1, a2, p2, q2, rfl, rfl, ⟨⟨a1, p1, q1, rfl, HKa.out.1⟩, a2, p2, q2, rfl, HKa.out.2⟩, (fun c h => by rw [HE.out] at h; cases h), by rw [HE.out]; rfl, ⟨(fun b off e => Nat.le_of_succ_le (HFr.out.1 b off e)), (fun b off e => Nat.le_of_succ_le (HFr.out.2 b off e))⟩, HBa.out⟩
          · have HE := Lib.hid (show clLn ps = some ⟨x1, ⟨#[]⟩, mv, yv⟩ from HE3.out.trans (by simp))
            go_wp2_with fail
            refine bodyPost_ret (v := .tuple #[.agg #[.string x1, .string ⟨#[]⟩, .slice a1 p1 q1, .slice a2 p2 q2], .bool true]) (by simp only [results, Tryz.results67]; go_simp) rfl ?_
            unfold ClnP
            exact ⟨⟨⟨x1, ⟨#[]⟩, mv, yv⟩, .slice a1 p1 q1, .slice a2 p2 q2⟩, a1, p1, q1, a2, p2, q2, rfl, rfl, ⟨⟨a1, p1, q1, rfl, HKa.out.1⟩, a2, p2, q2, rfl, HKa.out.2⟩, (fun c h => by rw [HE.out] at h; exact Option.some.inj h), by rw [HE.out]; rfl, ⟨(fun b off e => Nat.le_of_succ_le (HFr.out.1 b off e)), (fun b off e => Nat.le_of_succ_le (HFr.out.2 b off e))⟩, HBa.out⟩
        · rw [decide_eq_false hd] at w2 v2
          rw [Bool.not_false] at v2
          go_wp2_with fail
          refine (HN2.out _).mono ?_
          rintro e w3 ⟨rfl, rfl⟩
          cases sb
          · have HEa := Lib.hid (show clLn ps = none from HE2.out.trans (if_neg (fun k => by have h := k.1; rw [HSb.out, decide_eq_false hd] at h; cases h)))
            clear hd
            have HE := Lib.hid (show clLn ps = none from HEa.out)
            go_wp2_with fail
            refine bodyPost_ret (v := .tuple #[.agg #[.string ⟨#[]⟩, .string ⟨#[]⟩, .slice none 0 0, .slice none 0 0], .bool false]) (by simp only [results, Tryz.results67]; go_simp) rfl ?_
            unfold ClnP
            exact ⟨zeroCv, none, 0, 0, none, 0, 0, rfl, rfl, ⟨hdr_nil _, hdr_nil _⟩, (fun c h => by rw [HE.out] at h; cases h), by rw [HE.out]; rfl, ⟨(fun b off e => by cases e), (fun b off e => by cases e)⟩, HB0.out.low⟩
          · have HE3 := Lib.hid (show clLn ps = if mb = true ∧ yb = true then some ⟨x1, x2, mv, yv⟩ else none from HE2.out.trans (by rw [HSb.out, HSv.out, if_neg hd]; simp))
            clear hd HE2 HSb HSv
            go_wp2_with fail
            refine (HL1.out _).mono ?_
            rintro e w4 ⟨a1, p1, q1, rfl, t1, fr1, hb4⟩
            have HB4 := Lib.hid (HB0.out.step hb4)
            have z1 := cell_later hb4 z1
            have z2 := cell_later hb4 z2
            have z4 := cell_later hb4 z4
            clear z0 z3 r0 r1 r2 r3 f0 f1 f2 f3 hb4
            obtain ⟨⟨⟨r0, r1, r2, r3⟩, f0, f1, f2, f3⟩, _, hsz4⟩ := HB4.out
            go_wp2_with fail
            refine (HL2.out _).mono ?_
            rintro e w5 ⟨a2, p2, q2, rfl, t2, fr2, hb5⟩
            have HB5 := Lib.hid (HB4.out.step hb5)
            have z1 := cell_later hb5 z1
            have z2 := cell_later hb5 z2
            have HS5 := Lib.hid (And.intro (t1.below hb5) t2)
            have HFr := Lib.hid (And.intro (show FreshA (w.heap.size + 1) a1 from fun b off e => by have := fr1 b off e; simp at this; omega) (show FreshA (w.heap.size + 1) a2 from fun b off e => by have := fr2 b off e; omega))
            clear fr1 fr2 z4 r0 r1 r2 r3 f0 f1 f2 f3 hb5 t1 t2
            obtain ⟨⟨⟨r0, r1, r2, r3⟩, f0, f1, f2, f3⟩, _, hsz5⟩ := HB5.out
            go_upto_region 6 with fail
            have hbl := below_al w5 (.cells #[.string x1, .string ⟨#[]⟩, .slice a1 p1 q1, .slice a2 p2 q2] 64)
            have HB6 := Lib.hid (HB5.out.step hbl)
            have z2 := cell_later hbl z2
            have HK8 : Hid (Kb (w5.alloc (.cells #[.string x1, .string ⟨#[]⟩, .slice a1 p1 q1, .slice a2 p2 q2] 64)) w5.heap.size (.cells #[.string x1, .string ⟨#[]⟩, .slice a1 p1 q1, .slice a2 p2 q2] 64)) := Lib.hid (kbl_new _ _)
            have hb7 : Below w5.heap.size w5 ((w5.alloc (.cells #[.string x1, .string ⟨#[]⟩, .slice a1 p1 q1, .slice a2 p2 q2] 64)).setCell ⟨w5.heap.size, 1, none⟩ (.string x2)) := below_set1 hbl w5.heap.size 1 (Nat.le_refl _) _
            have HB7 := Lib.hid (HB5.out.step hb7)
            have HS7 := Lib.hid (And.intro (HS5.out.1.below hb7) (HS5.out.2.below hb7))
            clear hb7
            have hlt8 := hsz5
            clear hbl z1 r0 r1 r2 r3 f0 f1 f2 f3
            obtain ⟨b8, hb8⟩ : ∃ x, w5.heap.size = x := ⟨_, rfl⟩
            rw [hb8] at HK8 HB7 HS7 hlt8 ⊢
            clear hb8
            generalize w5.alloc (.cells #[.string x1, .string ⟨#[]⟩, .slice a1 p1 q1, .slice a2 p2 q2] 64) = W6 at HB6 HB7 HS7 HK8 z2 ⊢
            obtain ⟨⟨⟨r0, r1, r2, r3⟩, f0, f1, f2, f3⟩, _, hsz6⟩ := HB6.out
            have k0 : W6.cell? ⟨b8, 0, none⟩ = some (.string x1) := HK8.out.cell rfl
            have k1 : W6.cell? ⟨b8, 1, none⟩ = some (.string ⟨#[]⟩) := HK8.out.cell rfl
            have k2 : W6.cell? ⟨b8, 2, none⟩ = some (.slice a1 p1 q1) := HK8.out.cell rfl
            have k3 : W6.cell? ⟨b8, 3, none⟩ = some (.slice a2 p2 q2) := HK8.out.cell rfl
            have g1 : W6.frozen? ⟨b8, 1, none⟩ = false := heap_frozen HK8.out
            have hne : b8 ≠ w.heap.size := by omega
            have hne2 : w.heap.size ≠ b8 := by omega
            have HBa := Lib.hid (below_set1 (below_set1 (below_set1 (below_set1 HB7.out.low w.heap.size 0 (Nat.le_refl _) (.string x1)) w.heap.size 1 (Nat.le_refl _) (.string x2)) w.heap.size 2 (Nat.le_refl _) (.slice a1 p1 q1)) w.heap.size 3 (Nat.le_refl _) (.slice a2 p2 q2))
            have HKa := Lib.hid (And.intro (strs_kept (x := .string x1) (y := .string x2) (u := .slice a1 p1 q1) (v := .slice a2 p2 q2) HFr.out.1 HS7.out.1) (strs_kept (x := .string x1) (y := .string x2) (u := .slice a1 p1 q1) (v := .slice a2 p2 q2) HFr.out.2 HS7.out.2))
            cases mb <;> cases yb
            · have HE := Lib.hid (show clLn ps = none from HE3.out.trans (by simp))
              go_wp2_with fail
              refine bodyPost_ret (v := .tuple #[.agg #[.string x1, .string x2, .slice a1 p1 q1, .slice a2 p2 q2], .bool false]) (by simp only [results, Tryz.results67]; go_simp) rfl ?_
              unfold ClnP
              exact ⟨⟨⟨x1, x2, mv, yv⟩, .slice a1 p1 q1, .slice a2 p2 q2⟩, a1, p1, q1, a2, p2, q2, rfl, rfl, ⟨⟨a1, p1, q1, rfl, HKa.out.1⟩, a2, p2, q2, rfl, HKa.out.2⟩, (fun c h => by rw [HE.out] at h; cases h), by rw [HE.out]; rfl, ⟨(fun b off e => Nat.le_of_succ_le (HFr.out.1 b off e)), (fun b off e => Nat.le_of_succ_le (HFr.out.2 b off e))⟩, HBa.out⟩
            · have HE := Lib.hid (show clLn ps = none from HE3.out.trans (by simp))
              go_wp2_with fail
              refine bodyPost_ret (v := .tuple #[.agg #[.string x1, .string x2, .slice a1 p1 q1, .slice a2 p2 q2], .bool false]) (by simp only [results, Tryz.results67]; go_simp) rfl ?_
              unfold ClnP
              exact ⟨⟨⟨x1, x2, mv, yv⟩, .slice a1 p1 q1, .slice a2 p2 q2⟩, a1, p1, q1, a2, p2, q2, rfl, rfl, ⟨⟨a1, p1, q1, rfl, HKa.out.1⟩, a2, p2, q2, rfl, HKa.out.2⟩, (fun c h => by rw [HE.out] at h; cases h), by rw [HE.out]; rfl, ⟨(fun b off e => Nat.le_of_succ_le (HFr.out.1 b off e)), (fun b off e => Nat.le_of_succ_le (HFr.out.2 b off e))⟩, HBa.out⟩
            · have HE := Lib.hid (show clLn ps = none from HE3.out.trans (by simp))
              go_wp2_with fail
              refine bodyPost_ret (v := .tuple #[.agg #[.string x1, .string x2, .slice a1 p1 q1, .slice a2 p2 q2], .bool false]) (by simp only [results, Tryz.results67]; go_simp) rfl ?_
              unfold ClnP
              exact ⟨⟨⟨x1, x2, mv, yv⟩, .slice a1 p1 q1, .slice a2 p2 q2⟩, a1, p1, q1, a2, p2, q2, rfl, rfl, ⟨⟨a1, p1, q1, rfl, HKa.out.1⟩, a2, p2, q2, rfl, HKa.out.2⟩, (fun c h => by rw [HE.out] at h; cases h), by rw [HE.out]; rfl, ⟨(fun b off e => Nat.le_of_succ_le (HFr.out.1 b off e)), (fun b off e => Nat.le_of_succ_le (HFr.out.2 b off e))⟩, HBa.out⟩
            · have HE := Lib.hid (show clLn ps = some ⟨x1, x2, mv, yv⟩ from HE3.out.trans (by simp))
              go_wp2_with fail
              refine bodyPost_ret (v := .tuple #[.agg #[.string x1, .string x2, .slice a1 p1 q1, .slice a2 p2 q2], .bool true]) (by simp only [results, Tryz.results67]; go_simp) rfl ?_
              unfold ClnP
              exact ⟨⟨⟨x1, x2, mv, yv⟩, .slice a1 p1 q1, .slice a2 p2 q2⟩, a1, p1, q1, a2, p2, q2, rfl, rfl, ⟨⟨a1, p1, q1, rfl, HKa.out.1⟩, a2, p2, q2, rfl, HKa.out.2⟩, (fun c h => by rw [HE.out] at h; exact Option.some.inj h), by rw [HE.out]; rfl, ⟨(fun b off e => Nat.le_of_succ_le (HFr.out.1 b off e)), (fun b off e => Nat.le_of_succ_le (HFr.out.2 b off e))⟩, HBa.out⟩
    · rw [show decide (x0 = ⟨([99, 108, 97, 115, 115] : List UInt8).toArray⟩) = false from decide_eq_false h0] at w0 v0
      rw [Bool.not_false] at v0
      have HEa := Lib.hid (HEn.out h0)
      clear h0
      have HE := Lib.hid (show clLn ps = none from HEa.out)
      go_wp2_with fail
      refine bodyPost_ret (v := .tuple #[.agg #[.string ⟨#[]⟩, .string ⟨#[]⟩, .slice none 0 0, .slice none 0 0], .bool false]) (by simp only [results, Tryz.results67]; go_simp) rfl ?_
      unfold ClnP
      exact ⟨zeroCv, none, 0, 0, none, 0, 0, rfl, rfl, ⟨hdr_nil _, hdr_nil _⟩, (fun c h => by rw [HE.out] at h; cases h), by rw [HE.out]; rfl, ⟨(fun b off e => by cases e), (fun b off e => by cases e)⟩, HB0.out.low⟩
  · have d2 : ((n : Int) != 5) = true := by simp; omega
    go_enter Tryz.func67, Tryz.ntmps67
    have HE := Lib.hid (show clLn ps = none from (clLn_len (by omega)))
    go_wp2_with fail
    refine bodyPost_ret (v := .tuple #[.agg #[.string ⟨#[]⟩, .string ⟨#[]⟩, .slice none 0 0, .slice none 0 0], .bool false]) (by simp only [results, Tryz.results67]; go_simp) rfl ?_
    unfold ClnP
    exact ⟨zeroCv, none, 0, 0, none, 0, 0, rfl, rfl, ⟨hdr_nil _, hdr_nil _⟩, (fun c h => by rw [HE.out] at h; cases h), by rw [HE.out]; rfl, ⟨(fun b off e => by cases e), (fun b off e => by cases e)⟩, HB0.out.low⟩
end Go.Proofs.YtmmdaegdkikkpaaGreatDoor
end

section
/-
  Pure facts of the specification's Parse: reading line by line is a walk over the pieces between line feeds, and a line is a type line or a class line. No condition.
-/
set_option maxRecDepth 100000
namespace Go.Proofs.YtmmdaegdkikkpaaGreatDoor
open Go.RowKit Go.PlainAid
/-- the lines, one behind the other: all but the last are read, the last must be empty -/
def walkL (ts : List Ty) (cs : List Cl) : List ByteArray → Nat → Option (List Ty × List Cl) × Nat
  | [], _ => (some (ts, cs), 0)
  | [x], n => if x = ⟨#[]⟩ then (some (ts, cs), 0) else (none, n)
  | x :: y :: r, n => match lineL ts cs x with
    | some q => walkL q.1 q.2 (y :: r) (n + 1)
    | none => (none, n)
theorem parts_cut {s : ByteArray} {c : UInt8} (h : cutOk s ⟨#[c]⟩ = true) : partsB c s = cutBef s ⟨#[c]⟩ :: partsB c (cutAft s ⟨#[c]⟩) := by
  rw [parts_ofL, parts_ofL]
  rcases cut_one s c with ⟨_, h2⟩ | ⟨h1, _⟩
  · rw [h2.1, List.map_cons]
    congr 1
  · rw [h1] at h; cases h
theorem parts_uncut {s : ByteArray} {c : UInt8} (h : cutOk s ⟨#[c]⟩ ≠ true) : partsB c s = [s] := by
  rw [parts_ofL]
  rcases cut_one s c with ⟨h1, _⟩ | ⟨_, h2⟩
  · exact absurd h1 h
  · rw [h2.1, List.map_cons, List.map_nil]; congr 1
theorem parts_ne (c : UInt8) (s : ByteArray) : partsB c s ≠ [] := by
  rw [parts_ofL]
  intro e
  exact pc_ne c _ (List.map_eq_nil_iff.1 e)
theorem read_walk : ∀ (m : Nat) (s : ByteArray) (ts : List Ty) (cs : List Cl) (n : Nat), s.size ≤ m → readL ts cs s n = walkL ts cs (partsB 10 s) n
  | m, s, ts, cs, n, hm => by
    unfold readL
    by_cases h0 : s = ⟨#[]⟩
    · rw [if_pos h0, h0]
      have e : partsB 10 (⟨#[]⟩ : ByteArray) = [⟨#[]⟩] := by decide +kernel
      rw [e]
      unfold walkL
      rw [if_pos rfl]
    · rw [if_neg h0]
      by_cases hc : cutOk s ⟨#[10]⟩ = true
      · rw [dif_pos hc, parts_cut hc]
        obtain ⟨y, r, hr⟩ : ∃ y r, partsB 10 (cutAft s ⟨#[10]⟩) = y :: r := by
          cases e : partsB 10 (cutAft s ⟨#[10]⟩) with
          | nil => exact absurd e (parts_ne _ _)
          | cons y r => exact ⟨y, r, rfl⟩
        rw [hr]
        unfold walkL
        cases hl : lineL ts cs (cutBef s ⟨#[10]⟩) with
        | none => rfl
        | some q =>
          have hlt := (cut_lt hc).1
          match m, hm with
          | 0, hm => omega
          | m + 1, hm =>
            have ih := read_walk m (cutAft s ⟨#[10]⟩) q.1 q.2 (n + 1) (by omega)
            rw [hr] at ih
            exact ih
      · rw [dif_neg hc, parts_uncut hc]
        unfold walkL
        rw [if_neg h0]
/-- a line, as the specification reads its words -/
theorem line_as (ts : List Ty) (cls : List Cl) (s : ByteArray) : lineL ts cls s = match tyLn (partsB 32 s), clLn (partsB 32 s) with
    | some t, _ => if cls = [] then some (ts ++ [t], cls) else none
    | none, some c => some (ts, cls ++ [c])
    | none, none => none := by
  unfold lineL tyLn clLn
  by_cases h0 : partAt (partsB 32 s) 0 = typeW
  · have hne : partAt (partsB 32 s) 0 ≠ classW := by rw [h0]; decide +kernel
    rw [if_pos h0, if_pos h0, if_neg hne]
    cases rdType (partsB 32 s).tail <;> rfl
  · rw [if_neg h0, if_neg h0]
    by_cases h1 : partAt (partsB 32 s) 0 = classW
    · rw [if_pos h1, if_pos h1]
      cases rdClass (partsB 32 s).tail <;> rfl
    · rw [if_neg h1, if_neg h1]
end Go.Proofs.YtmmdaegdkikkpaaGreatDoor
end

section
/-
  Contract of the specification's Parse. Condition: a text of at most 1000000 bytes.
-/
set_option maxRecDepth 100000
namespace Go.Proofs.YtmmdaegdkikkpaaGreatDoor
open Go.RowKit Go.PlainAid
theorem cl_of_ty {ps : List ByteArray} (h : (tyLn ps).isSome = true) : clLn ps = none := by
  unfold tyLn at h
  unfold clLn
  by_cases h0 : partAt ps 0 = typeW
  · rw [if_neg (by rw [h0]; decide +kernel)]
  · rw [if_neg h0] at h; cases h
/-- 'l = append(l, t)' where l is the call's own, with what it leaves -/
theorem push_type_g {ops : Array Oper} {rest : List Oper} {o : Oper} {a : Act} {Q : Exit → Act → World → Prop} (wr : World) {base : Nat} {v : Value} {n : Nat} {xs : List Value} (hown : wr.ownsRow base 62 3 v n xs) (s x : Operand)
    (t : Ty) (hgd : o.guard = none)
    (ho : o.op = .call { callee := .builtin .append, args := #[s, x], argTypes := #[22, 22] })
    (hs : a.eval s = v) (hx : a.eval x = .slice (some ⟨wr.heap.size, 0, none⟩) 1 1) (hn : n + 1 ≤ 1000000000) (hbase : base ≤ wr.heap.size)
    (h : ∀ v' w', w'.ownsRow base 62 3 v' (n + 1) (xs ++ tyC t) → (wr.alloc (.cells #[.string t.name, .int .i64 t.syn, .bool t.single] 62)).grownBy w' v.ownBlock → (v'.ownBlock = v.ownBlock ∨ ∃ g, v'.ownBlock = some g ∧ wr.heap.size < g) → wpList Tryz.prog ops Q rest (a.put o.dst v') w') :
    wpList Tryz.prog ops Q (o :: rest) a (wr.alloc (.cells #[.string t.name, .int .i64 t.syn, .bool t.single] 62)) := by
  obtain ⟨i0, hi, hz0, hz1, hz2⟩ := info_parts info_type
  refine wpList_append_own_at _ hgd s x 22 ho base 62 i0 (.agg #[.string ⟨#[]⟩, .int .i64 0, .bool false]) 3 32 Tryz.underlying22 hi hz0 hz1 hz2 rfl (by decide) v n xs hs (hown.alloc _) ⟨wr.heap.size, 0, none⟩ 1 1 (tyC t) hx rfl
    (cells_three_new _ _ _ _ _) (by simpa [ycells] using ycells_one [t]) (by unfold maxLen; omega) (by omega) (by simp; omega) ?_
  intro v' w' h1 h2 _ h4
  refine h v' w' h1 h2 ?_
  rcases h4 with h4 | h4
  · exact .inl h4
  · exact .inr ⟨_, h4, by simp⟩
/-- strings apart from the box and its rows stay where a row grows -/
theorem SB.keep_at {W wr w' : World} {b j : Nat} {vt vc u v v' : Value} {l : List ByteArray} (hu : u = vt ∨ u = vc) (hB : Below W.heap.size W wr) (hg : wr.grownBy w' u.ownBlock) (hh : Hdr W v l) (hf : FarV b v vt vc) : Hdr (w'.setCell ⟨b, j, none⟩ v') v l := by
  have hsz : W.heap.size ≤ (w'.setCell ⟨b, j, none⟩ v').heap.size := by
    have := Nat.le_trans hB.size hg.size
    simpa [World.setCell] using this
  refine hh.keepP hsz fun g off n c e hn hgl => ?_
  obtain ⟨f1, f2, f3⟩ := hf g off n c e hn
  have hne : u.ownBlock ≠ some g := by rcases hu with rfl | rfl <;> assumption
  exact ((Below.heap_setCell w' ⟨b, j, none⟩ v' g (Nat.ne_of_gt f1)).trans (hg.block g (Nat.lt_of_lt_of_le hgl hB.size) (fun e => hne e.symm))).trans (hB.block g hgl)
theorem far_t {W : World} {b : Nat} {vt vc v v' : Value} {l : List ByteArray} (hat : v'.ownBlock = vt.ownBlock ∨ ∃ g, v'.ownBlock = some g ∧ W.heap.size ≤ g) (hh : Hdr W v l) (hf : FarV b v vt vc) : FarV b v v' vc := fun g off n c e hn => by
  obtain ⟨f1, f2, f3⟩ := hf g off n c e hn
  refine ⟨f1, fun e2 => ?_, f3⟩
  rcases hat with hat | ⟨g', hat, hge⟩
  · exact f2 (hat.symm.trans e2)
  · subst e
    have := hh.inW hn
    have := Option.some.inj (hat.symm.trans e2)
    omega
theorem far_c {W : World} {b : Nat} {vt vc v v' : Value} {l : List ByteArray} (hat : v'.ownBlock = vc.ownBlock ∨ ∃ g, v'.ownBlock = some g ∧ W.heap.size ≤ g) (hh : Hdr W v l) (hf : FarV b v vt vc) : FarV b v vt v' := fun g off n c e hn => by
  obtain ⟨f1, f2, f3⟩ := hf g off n c e hn
  refine ⟨f1, f2, fun e2 => ?_⟩
  rcases hat with hat | ⟨g', hat, hge⟩
  · exact f3 (hat.symm.trans e2)
  · subst e
    have := hh.inW hn
    have := Option.some.inj (hat.symm.trans e2)
    omega
/-- what the loop over the lines keeps -/
structure PaI (s : ByteArray) (w : World) (lines : List ByteArray) (lv : Value) (i : Nat) (ts : List Ty) (cvs : List Cv) (vt vc : Value) (wr : World) : Prop where
  sb : SB wr (w.heap.size + 1) ts cvs vt vc
  hdr : Hdr wr lv lines
  far : FarV (w.heap.size + 1) lv vt vc
  smT : SmT ts
  smC : SmC (ccls cvs)
  few : ts.length + cvs.length ≤ i
  walk : readL [] [] s 1 = walkL ts (ccls cvs) (lines.drop i) (i + 1)
  res : wr.heap[w.heap.size]? = some (.cells #[.slice none 0 0, .slice none 0 0] 25)
  low : Below w.heap.size w wr
theorem PaI.below {s : ByteArray} {w wr V : World} {lines : List ByteArray} {lv : Value} {i : Nat} {ts : List Ty} {cvs : List Cv} {vt vc : Value} (h : PaI s w lines lv i ts cvs vt vc wr) (hb : Below wr.heap.size wr V) : PaI s w lines lv i ts cvs vt vc V :=
  ⟨h.sb.below hb, h.hdr.below hb, h.far, h.smT, h.smC, h.few, h.walk, (hb.block _ (by have := h.sb.lt; omega)).trans h.res, h.low.trans (hb.mono h.low.size)⟩
theorem drop_two {lines : List ByteArray} {i : Nat} (hi : i + 1 < lines.length) : lines.drop i = partAt lines i :: partAt lines (i + 1) :: lines.drop (i + 2) ∧ lines.drop (i + 1) = partAt lines (i + 1) :: lines.drop (i + 2) := by
  have h1 : lines.drop i = partAt lines i :: lines.drop (i + 1) := by
    rw [List.drop_eq_getElem_cons (by omega : i < lines.length)]
    congr 1
    unfold partAt
    rw [List.getD_eq_getElem?_getD, List.getElem?_eq_getElem]; rfl
  have h2 : lines.drop (i + 1) = partAt lines (i + 1) :: lines.drop (i + 2) := by
    rw [List.drop_eq_getElem_cons (by omega : i + 1 < lines.length)]
    congr 1
    unfold partAt
    rw [List.getD_eq_getElem?_getD, List.getElem?_eq_getElem]; rfl
  exact ⟨by rw [h1, h2], h2⟩
theorem walk_some {ts : List Ty} {cs : List Cl} {lines : List ByteArray} {i : Nat} (hi : i + 1 < lines.length) {q : List Ty × List Cl} (hr : lineL ts cs (partAt lines i) = some q) (n : Nat) :
    walkL ts cs (lines.drop i) n = walkL q.1 q.2 (lines.drop (i + 1)) (n + 1) := by
  obtain ⟨h1, h2⟩ := drop_two hi
  rw [h1, h2]
  show (match lineL ts cs (partAt lines i) with | some q => walkL q.1 q.2 (partAt lines (i + 1) :: lines.drop (i + 2)) (n + 1) | none => (none, n)) = _
  rw [hr]
theorem walk_none {ts : List Ty} {cs : List Cl} {lines : List ByteArray} {i : Nat} (hi : i + 1 < lines.length) (hr : lineL ts cs (partAt lines i) = none) (n : Nat) : walkL ts cs (lines.drop i) n = (none, n) := by
  rw [(drop_two hi).1]
  show (match lineL ts cs (partAt lines i) with | some q => walkL q.1 q.2 (partAt lines (i + 1) :: lines.drop (i + 2)) (n + 1) | none => (none, n)) = _
  rw [hr]
theorem walk_last {ts : List Ty} {cs : List Cl} {lines : List ByteArray} {i : Nat} (hi : i + 1 = lines.length) (n : Nat) :
    walkL ts cs (lines.drop i) n = if partAt lines i = ⟨#[]⟩ then (some (ts, cs), 0) else (none, n) := by
  have h1 : lines.drop i = [partAt lines i] := by
    rw [List.drop_eq_getElem_cons (by omega : i < lines.length), List.drop_eq_nil_of_le (by omega)]
    congr 1
    unfold partAt
    rw [List.getD_eq_getElem?_getD, List.getElem?_eq_getElem]; rfl
  rw [h1]
  rfl
theorem PaI.push_t {s : ByteArray} {w W w' : World} {lines : List ByteArray} {lv : Value} {i : Nat} {ts : List Ty} {cvs : List Cv} {vt vc v' : Value} {t : Ty} (h : PaI s w lines lv i ts cvs vt vc W) (hi : i + 1 < lines.length) (hz : (partAt lines i).size ≤ 1000000) (hl : lineL ts (ccls cvs) (partAt lines i) = some (ts ++ [t], ccls cvs)) (L : Obj)
    (hg : (W.alloc L).grownBy w' vt.ownBlock) (hrow : w'.ownsRow (w.heap.size + 1 + 1) 62 3 v' (ts.length + 1) (ycells ts ++ tyC t)) (hat : v'.ownBlock = vt.ownBlock ∨ ∃ g, v'.ownBlock = some g ∧ W.heap.size < g) :
    w'.heap[w.heap.size + 1]? = some (.cells #[vt, vc] 25) ∧ PaI s w lines lv (i + 1) (ts ++ [t]) cvs v' vc (w'.setCell ⟨w.heap.size + 1, 0, none⟩ v') := by
  have hB : Below W.heap.size W (W.alloc L) := (Below.refl _ _).alloc (Nat.le_refl _) L
  have hat' : v'.ownBlock = vt.ownBlock ∨ ∃ g, v'.ownBlock = some g ∧ W.heap.size ≤ g := hat.imp id fun ⟨g, e, hl⟩ => ⟨g, e, Nat.le_of_lt hl⟩
  obtain ⟨p, q, r⟩ := h.sb.push_t hB hg hrow hat'
  obtain ⟨m1, m2, m3⟩ := lineL_sm hl hz h.smT h.smC
  simp only [ccls_len] at m3
  refine ⟨p, q, SB.keep_at (.inl rfl) hB hg h.hdr h.far, far_t hat' h.hdr h.far, m1, h.smC, ?_, ?_, (r.block _ (Nat.lt_succ_self _)).trans h.res, h.low.trans ((r.mono (Nat.le_succ _)))⟩
  · have := h.few; rw [List.length_append]; simp; omega
  · rw [h.walk, walk_some hi hl]
theorem PaI.push_c {s : ByteArray} {w W w' : World} {lines : List ByteArray} {lv : Value} {i : Nat} {ts : List Ty} {cvs : List Cv} {vt vc v' : Value} {d : Cv} (h : PaI s w lines lv i ts cvs vt vc W) (hd : CvOk W d) (hf : FarV (w.heap.size + 1) d.hm vt vc ∧ FarV (w.heap.size + 1) d.hy vt vc) (hi : i + 1 < lines.length) (hz : (partAt lines i).size ≤ 1000000) (hl : lineL ts (ccls cvs) (partAt lines i) = some (ts, ccls cvs ++ [d.cl])) (L : Obj)
    (hg : (W.alloc L).grownBy w' vc.ownBlock) (hrow : w'.ownsRow (w.heap.size + 1 + 1) 64 4 v' (cvs.length + 1) (ccells cvs ++ cvC d)) (hat : v'.ownBlock = vc.ownBlock ∨ ∃ g, v'.ownBlock = some g ∧ W.heap.size < g) :
    w'.heap[w.heap.size + 1]? = some (.cells #[vt, vc] 25) ∧ PaI s w lines lv (i + 1) ts (cvs ++ [d]) vt v' (w'.setCell ⟨w.heap.size + 1, 1, none⟩ v') := by
  have hB : Below W.heap.size W (W.alloc L) := (Below.refl _ _).alloc (Nat.le_refl _) L
  have hat' : v'.ownBlock = vc.ownBlock ∨ ∃ g, v'.ownBlock = some g ∧ W.heap.size ≤ g := hat.imp id fun ⟨g, e, hl⟩ => ⟨g, e, Nat.le_of_lt hl⟩
  obtain ⟨p, q, r⟩ := h.sb.push_c hd hf hB hg hrow hat'
  obtain ⟨m1, m2, m3⟩ := lineL_sm hl hz h.smT h.smC
  refine ⟨p, q, SB.keep_at (.inr rfl) hB hg h.hdr h.far, far_c hat' h.hdr h.far, m1, by rw [ccls_snoc]; exact m2, ?_, ?_, (r.block _ (Nat.lt_succ_self _)).trans h.res, h.low.trans ((r.mono (Nat.le_succ _)))⟩
  · have := h.few; rw [List.length_append]; simp; omega
  · rw [h.walk, walk_some hi hl, ccls_snoc]
set_option maxHeartbeats 16000000 in
theorem parse7_s (s : ByteArray) (w : World) (hs : s.size ≤ 1000000) :
    Calls Tryz.prog 18 #[.string s] w fun e w' => ParP s w e w' := by
  by_cases hbig : 4096 < s.size
  · have d1 : (s.size : Int) > 4096 := by omega
    go_enter Tryz.func18, Tryz.ntmps18
    go_wp2_with fail
    refine bodyPost_ret (v := .tuple #[.agg #[.slice none 0 0, .slice none 0 0], .int .i64 0, .int .i64 3]) (by simp only [results, Tryz.results18]; go_simp) rfl ?_
    exact ParP.big hbig ((Below.refl _ _).alloc (Nat.le_refl _) _)
  · have d1 : ¬ (s.size : Int) > 4096 := by omega
    have hle : s.size ≤ 4096 := by omega
    have hb0 : Below w.heap.size w ((w.alloc (.cells #[.slice none 0 0, .slice none 0 0] 25)).alloc (.cells #[.slice none 0 0, .slice none 0 0] 25)) := ((Below.refl _ _).alloc (Nat.le_refl _) _).alloc (by simp) _
    have HB0 := Lib.hid hb0
    have HSB := Lib.hid (sb_new w (.cells #[.slice none 0 0, .slice none 0 0] 25))
    have HX0 := Lib.hid (show ((w.alloc (.cells #[.slice none 0 0, .slice none 0 0] 25)).alloc (.cells #[.slice none 0 0, .slice none 0 0] 25)).heap[w.heap.size]? = some (.cells #[.slice none 0 0, .slice none 0 0] 25) from (Below.heap_alloc _ _ _ (by simp)).trans (heap_alloc_new w _))
    have HC := Lib.hid (cut7_s s 10 10 ((w.alloc (.cells #[.slice none 0 0, .slice none 0 0] 25)).alloc (.cells #[.slice none 0 0, .slice none 0 0] 25)) hs rfl)
    obtain ⟨lines, hlines⟩ : ∃ x, partsB 10 s = x := ⟨_, rfl⟩
    have HW := Lib.hid (show readL [] [] s 1 = walkL [] [] lines 1 from by rw [read_walk s.size s [] [] 1 (Nat.le_refl _), hlines])
    have HZ := Lib.hid (show ∀ j, (partAt lines j).size ≤ 4096 from part_sz (fun x hx => by rw [← hlines] at hx; exact Nat.le_trans (partsB_small hx) hle))
    have HN1 : 0 < lines.length := List.length_pos_iff.2 (by rw [← hlines]; exact parts_ne _ _)
    have HN2 : lines.length ≤ 4097 := by have := parts_count 10 s; rw [hlines] at this; omega
    rw [hlines] at HC
    clear hb0 hlines
    go_enter Tryz.func18, Tryz.ntmps18
    go_wp2_with fail
    refine HC.out.mono ?_
    rintro e w1 ⟨v, rfl, hrow, hb⟩
    have HOB := Lib.hid (fun g hg => (hrow.lt g hg).1)
    obtain ⟨lo, lcap, rfl, hL⟩ := strs_own hrow rfl
    obtain ⟨n, hn⟩ : ∃ n, lines.length = n := ⟨_, rfl⟩
    rw [hn] at hL HN1 HN2 HOB ⊢
    have HN := Lib.hid hn
    have hcap := hL.2.1
    have hmx := hL.2.2.1
    obtain ⟨g, off, rfl, _⟩ := hL.2.2.2 HN1
    have HI := Lib.hid (show PaI s w lines (.slice (some ⟨g, off, none⟩) n lcap) 0 [] [] (.slice none 0 0) (.slice none 0 0) w1 from
      ⟨HSB.out.below hb, ⟨_, _, _, rfl, hL⟩, (fun g' off' n' c' e hn => by
        simp only [Value.slice.injEq, Option.some.injEq, Addr.mk.injEq] at e
        obtain ⟨⟨rfl, _⟩, _⟩ := e
        exact ⟨(by have := HOB.out g rfl; simp at this; omega), (by simp [Value.ownBlock]), (by simp [Value.ownBlock])⟩), (fun _ h => by cases h), (fun _ h => by cases h), Nat.le_refl _, HW.out, (hb.block _ (by simp; omega)).trans HX0.out, HB0.out.trans (hb.mono HB0.out.size)⟩)
    unfold maxLen at hmx
    clear hb hrow hL hn HSB HX0 HB0 HC HOB HW
    go_wp2_with fail
    go_loopw [7, 8, 9, 10, 11, 12] (fun s7 _ _ _ _ _ wr => ∃ (i : Nat) (ts : List Ty) (cvs : List Cv) (vt vc : Value), s7 = .int .i64 i ∧ i + 1 ≤ n ∧ Hid (PaI s w lines (.slice (some ⟨g, off, none⟩) n lcap) i ts cvs vt vc wr)) (fun s7 _ _ _ _ _ _ => n - (intOf s7).toNat)
    case atStart => exact ⟨0, [], [], _, _, rfl, by omega, HI⟩
    case round =>
      clear HI
      obtain ⟨i, ts, cvs, vt, vc, rfl, hi, HI⟩ := hrel
      obtain ⟨ao, cap, rfl⟩ := row_slice HI.out.sb.rowT
      obtain ⟨bo, dap, rfl⟩ := row_slice HI.out.sb.rowC
      have hcell : ∀ V, PaI s w lines (.slice (some ⟨g, off, none⟩) n lcap) i ts cvs (.slice ao ts.length cap) (.slice bo cvs.length dap) V → ∀ j, j < n → V.cell? ⟨g, off + j, none⟩ = some (.string (partAt lines j)) := fun V hV j hj => by
        obtain ⟨ao', n', cap', e, _, _, _, h4⟩ := hV.hdr
        simp only [Value.slice.injEq] at e
        obtain ⟨rfl, rfl, rfl⟩ := e
        obtain ⟨g', off', e', hi'⟩ := h4 HN1
        simp only [Option.some.injEq, Addr.mk.injEq, and_true] at e'
        obtain ⟨rfl, rfl⟩ := e'
        exact hi'.2 j (by rw [HN.out]; exact hj)
      have HCell := Lib.hid hcell
      clear hcell
      by_cases hlt : i + 1 < n
      · have d2 : decide ((i : Int) + 1 < (n : Int)) = true := decide_eq_true (by omega)
        have hin : i < n := by omega
        have z0 := HCell.out wr HI.out i hin
        have hx4 := HZ.out i
        obtain ⟨x, hx⟩ : ∃ x, partAt lines i = x := ⟨_, rfl⟩
        rw [hx] at z0 hx4
        have HC2 := Lib.hid (cut7_s x 32 32 wr (by omega) rfl)
        have HXe := Lib.hid hx
        have HLine := Lib.hid (line_as ts (ccls cvs) x)
        obtain ⟨ps, hps⟩ : ∃ ps, partsB 32 x = ps := ⟨_, rfl⟩
        have HPz := Lib.hid (show ∀ y ∈ ps, y.size ≤ 1000000 from fun y hy => by rw [← hps] at hy; exact Nat.le_trans (partsB_small hy) (by omega))
        rw [hps] at HC2 HLine
        clear hps hx
        go_wp2_with fail
        refine HC2.out.mono ?_
        rintro e w1 ⟨v1, rfl, hrow, hb⟩
        obtain ⟨wo, wc, rfl, hst⟩ := strs_own hrow rfl
        obtain ⟨wn, hwn⟩ : ∃ k, ps.length = k := ⟨_, rfl⟩
        rw [hwn] at hst ⊢
        have HI1 := Lib.hid (HI.out.below hb)
        have HSt := Lib.hid hst
        have HT := Lib.hid (typeLine7_s wo wn wc ps w1 hst HPz.out)
        have HCt := Lib.hid (fun h => cl_of_ty (ps := ps) h)
        obtain ⟨tl, htl⟩ : ∃ t, tyLn ps = t := ⟨_, rfl⟩
        obtain ⟨cl, hcl⟩ : ∃ t, clLn ps = t := ⟨_, rfl⟩
        rw [htl] at HT HLine HCt
        rw [hcl] at HLine HCt
        have HCl := Lib.hid (fun (V : World) (hV : Below w1.heap.size w1 V) => classLine7_s wo wn wc ps V (HSt.out.below hV) HPz.out)
        unfold ClnP at HCl
        rw [hcl] at HCl
        obtain ⟨⟨tn, sy, sg⟩, ht⟩ : ∃ t, tl.getD zeroTy = t := ⟨_, rfl⟩
        obtain ⟨tb, htb⟩ : ∃ b, tl.isSome = b := ⟨_, rfl⟩
        obtain ⟨cb, hcb⟩ : ∃ b, cl.isSome = b := ⟨_, rfl⟩
        rw [ht, htb] at HT
        rw [hcb] at HCl
        unfold tyV at HT
        have HTv := Lib.hid (show tl = if tb = true then some ⟨tn, sy, sg⟩ else none by
          cases tl with
          | none => subst htb; rfl
          | some u => subst htb; simp only [Option.getD_some] at ht; rw [ht]; rfl)
        have HTb := Lib.hid htb
        have HCb := Lib.hid hcb
        clear hb hrow hst hwn z0 htl hcl ht htb hcb HC2
        go_wp2_with fail
        refine HT.out.mono ?_
        rintro e w2 ⟨rfl, hb⟩
        have HI2 := Lib.hid (HI1.out.below hb)
        have hbl := below_al w2 (.cells #[.string tn, .int .i64 sy, .bool sg] 62)
        have HI3 := Lib.hid (HI2.out.below hbl)
        have hb12 : Below w1.heap.size w1 (w2.alloc (.cells #[.string tn, .int .i64 sy, .bool sg] 62)) := hb.trans (hbl.mono hb.size)
        have HCl2 := Lib.hid (HCl.out _ hb12)
        have HT3 : Hid (Kb (w2.alloc (.cells #[.string tn, .int .i64 sy, .bool sg] 62)) w2.heap.size (.cells #[.string tn, .int .i64 sy, .bool sg] 62)) := Lib.hid (kbl_new _ _)
        clear hb hbl hb12 HT HCl
        go_wp2_with fail
        refine HCl2.out.mono ?_
        rintro e w3 ⟨⟨⟨cn, cs, cm, cy⟩, _, _⟩, a1, p1, q1, a2, p2, q2, rfl, rfl, hok, hcl, rfl, ⟨hf1, hf2⟩, hb⟩
        dsimp only
        have HI4 := Lib.hid (HI3.out.below hb)
        have HT4 := Lib.hid (HT3.out.step hb)
        have hbl := below_al w3 (.cells #[.string cn, .string cs, .slice a1 p1 q1, .slice a2 p2 q2] 64)
        have HI5 := Lib.hid (HI4.out.below hbl)
        have HT5 := Lib.hid (HT4.out.step hbl)
        have HC5 : Hid (Kb (w3.alloc (.cells #[.string cn, .string cs, .slice a1 p1 q1, .slice a2 p2 q2] 64)) w3.heap.size (.cells #[.string cn, .string cs, .slice a1 p1 q1, .slice a2 p2 q2] 64)) := Lib.hid (kbl_new _ _)
        have HOk := Lib.hid (hok.below hbl)
        have HFar := Lib.hid (show FarV (w.heap.size + 1) (.slice a1 p1 q1) (.slice ao ts.length cap) (.slice bo cvs.length dap) ∧ FarV (w.heap.size + 1) (.slice a2 p2 q2) (.slice ao ts.length cap) (.slice bo cvs.length dap) from
          ⟨FarV.fresh HI3.out.sb hf1, FarV.fresh HI3.out.sb hf2⟩)
        have HCe := Lib.hid hcl
        go_upto_region 12 with fail
        clear hb hbl hok hf1 hf2 hcl HCl2
        obtain ⟨b9, hb9⟩ : ∃ x, w2.heap.size = x := ⟨_, rfl⟩
        obtain ⟨b11, hb11⟩ : ∃ x, w3.heap.size = x := ⟨_, rfl⟩
        rw [hb9] at HT5 ⊢
        rw [hb11] at HC5 ⊢
        clear hb9 hb11
        generalize w3.alloc (.cells #[.string cn, .string cs, .slice a1 p1 q1, .slice a2 p2 q2] 64) = W5 at HI5 HT5 HC5 HOk ⊢
        have x0 : W5.cell? ⟨w.heap.size + 1, 0, none⟩ = some (.slice ao ts.length cap) := heap_cell HI5.out.sb.blk rfl
        have x1 : W5.cell? ⟨w.heap.size + 1, 1, none⟩ = some (.slice bo cvs.length dap) := heap_cell HI5.out.sb.blk rfl
        obtain ⟨k0, k1, k2⟩ : W5.cell? ⟨b9, 0, none⟩ = some (.string tn) ∧ W5.cell? ⟨b9, 1, none⟩ = some (.int .i64 sy) ∧ W5.cell? ⟨b9, 2, none⟩ = some (.bool sg) := ⟨HT5.out.cell rfl, HT5.out.cell rfl, HT5.out.cell rfl⟩
        obtain ⟨m0, m1, m2, m3⟩ : W5.cell? ⟨b11, 0, none⟩ = some (.string cn) ∧ W5.cell? ⟨b11, 1, none⟩ = some (.string cs) ∧ W5.cell? ⟨b11, 2, none⟩ = some (.slice a1 p1 q1) ∧ W5.cell? ⟨b11, 3, none⟩ = some (.slice a2 p2 q2) := ⟨HC5.out.cell rfl, HC5.out.cell rfl, HC5.out.cell rfl, HC5.out.cell rfl⟩
        have hlt5 := HI5.out.sb.lt
        have hfew := HI5.out.few
        cases tb
        · cases cb
          · have HE := Lib.hid (show readL [] [] s 1 = (none, i + 1) by
              rw [HI5.out.walk, walk_none (by rw [HN.out]; exact hlt) (by
                have hcn : cl = none := by
                  cases cl with
                  | none => rfl
                  | some u => have := HCb.out; cases this
                rw [HXe.out, HLine.out, HTv.out, hcn]; simp)])
            clear k0 k1 k2 m0 m1 m2 m3
            obtain ⟨r0, r1⟩ : W5.cell? ⟨w.heap.size, 0, none⟩ = some (.slice none 0 0) ∧ W5.cell? ⟨w.heap.size, 1, none⟩ = some (.slice none 0 0) := ⟨heap_cell HI5.out.res rfl, heap_cell HI5.out.res rfl⟩
            have f0 : W5.frozen? ⟨w.heap.size, 0, none⟩ = false := heap_frozen HI5.out.res
            have f1 : W5.frozen? ⟨w.heap.size, 1, none⟩ = false := heap_frozen HI5.out.res
            go_wp2_with fail
            refine bodyPost_ret (v := .tuple #[.agg #[.slice none 0 0, .slice none 0 0], .int .i64 ((i : Int) + 1), .int .i64 4]) (by simp only [results, Tryz.results18]; go_simp) rfl ?_
            exact ParP.no hle HE.out (below_set1 (below_set1 HI5.out.low w.heap.size 0 (Nat.le_refl _) _) w.heap.size 1 (Nat.le_refl _) _)
          · have HLc := Lib.hid (show lineL ts (ccls cvs) (partAt lines i) = some (ts, ccls cvs ++ [⟨cn, cs, cm, cy⟩]) by
              obtain ⟨u, hu⟩ : ∃ u, cl = some u := by
                cases cl with
                | none => have := HCb.out; cases this
                | some u => exact ⟨u, rfl⟩
              have hcu : (⟨cn, cs, cm, cy⟩ : Cl) = u := HCe.out u hu
              rw [HXe.out, HLine.out, HTv.out, hu, ← hcu]; simp)
            have HP := Lib.hid (fun (v' : Value) (w' : World) => HI5.out.push_c (v' := v') (w' := w') HOk.out HFar.out (by rw [HN.out]; exact hlt) (by have := HZ.out i; omega) HLc.out)
            clear k0 k1 k2
            go_wp2_with (at_builtin; go_must (refine push_class W5 HI5.out.sb.rowC (.tmp 63) (.tmp 65) ⟨⟨cn, cs, cm, cy⟩, .slice a1 p1 q1, .slice a2 p2 q2⟩ HOk.out ?_ ?_ ?_ ?_ ?_ ?_ ?_; exact rfl; exact rfl; exact rfl; exact rfl; omega; omega; intro v6 w6 g1 g2 g3; obtain ⟨ao6, cap6, rfl⟩ := row_slice g1; obtain ⟨hk6, hI6⟩ := HP.out _ _ _ g2 g1 g3; have qA : w6.cell? ⟨w.heap.size + 1, 1, none⟩ = some (.slice bo cvs.length dap) := heap_cell hk6 rfl; have fA : w6.frozen? ⟨w.heap.size + 1, 1, none⟩ = false := heap_frozen hk6; have HI6 := Lib.hid hI6; clear hI6 hk6 g1 g2 g3 x0 x1 m0 m1 m2 m3))
            go_roundw
            case rel => exact ⟨i + 1, _, _, _, _, by go_num, by omega, HI6⟩
            case measure => simp [intOf]; omega
        · obtain rfl : cb = false := by rw [← HCb.out, HCt.out HTb.out]; rfl
          have HTs := Lib.hid (show tl = some ⟨tn, sy, sg⟩ from HTv.out.trans (if_pos rfl))
          by_cases hz : cvs.length = 0
          · have d3 : (cvs.length : Int) = 0 := by omega
            have d4 : ((cvs.length : Int) == 0) = true := by rw [d3]; rfl
            have HLt := Lib.hid (show lineL ts (ccls cvs) (partAt lines i) = some (ts ++ [⟨tn, sy, sg⟩], ccls cvs) by
              have hcl0 : ccls cvs = [] := by obtain rfl := List.eq_nil_of_length_eq_zero hz; rfl
              rw [HXe.out, HLine.out, HTs.out]
              exact if_pos hcl0)
            have HP := Lib.hid (fun (v' : Value) (w' : World) => HI5.out.push_t (v' := v') (w' := w') (by rw [HN.out]; exact hlt) (by have := HZ.out i; omega) HLt.out)
            clear m0 m1 m2 m3 hz
            go_wp2_with (at_builtin; go_must (refine push_type_g W5 HI5.out.sb.rowT (.tmp 55) (.tmp 57) ⟨tn, sy, sg⟩ ?_ ?_ ?_ ?_ ?_ ?_ ?_; exact rfl; exact rfl; exact rfl; exact rfl; omega; omega; intro v6 w6 g1 g2 g3; obtain ⟨ao6, cap6, rfl⟩ := row_slice g1; obtain ⟨hk6, hI6⟩ := HP.out _ _ _ g2 g1 g3; have qA : w6.cell? ⟨w.heap.size + 1, 0, none⟩ = some (.slice ao ts.length cap) := heap_cell hk6 rfl; have fA : w6.frozen? ⟨w.heap.size + 1, 0, none⟩ = false := heap_frozen hk6; have HI6 := Lib.hid hI6; clear hI6 hk6 g1 g2 g3 x0 x1 k0 k1 k2 d3 d4))
            go_roundw
            case rel => exact ⟨i + 1, _, _, _, _, by go_num, by omega, HI6⟩
            case measure => simp [intOf]; omega
          · have d3 : ¬ (cvs.length : Int) = 0 := by omega
            have d4 : ((cvs.length : Int) == 0) = false := beq_false_of_ne d3
            have HE := Lib.hid (show readL [] [] s 1 = (none, i + 1) by
              rw [HI5.out.walk, walk_none (by rw [HN.out]; exact hlt) (by
                have hcl0 : ¬ ccls cvs = [] := fun e => hz (by rw [← ccls_len, e]; rfl)
                rw [HXe.out, HLine.out, HTs.out]
                exact if_neg hcl0)])
            clear k0 k1 k2 m0 m1 m2 m3
            obtain ⟨r0, r1⟩ : W5.cell? ⟨w.heap.size, 0, none⟩ = some (.slice none 0 0) ∧ W5.cell? ⟨w.heap.size, 1, none⟩ = some (.slice none 0 0) := ⟨heap_cell HI5.out.res rfl, heap_cell HI5.out.res rfl⟩
            have f0 : W5.frozen? ⟨w.heap.size, 0, none⟩ = false := heap_frozen HI5.out.res
            have f1 : W5.frozen? ⟨w.heap.size, 1, none⟩ = false := heap_frozen HI5.out.res
            go_wp2_with fail
            refine bodyPost_ret (v := .tuple #[.agg #[.slice none 0 0, .slice none 0 0], .int .i64 ((i : Int) + 1), .int .i64 4]) (by simp only [results, Tryz.results18]; go_simp) rfl ?_
            exact ParP.no hle HE.out (below_set1 (below_set1 HI5.out.low w.heap.size 0 (Nat.le_refl _) _) w.heap.size 1 (Nat.le_refl _) _)
      · obtain rfl : n = i + 1 := by omega
        have d2 : decide ((i : Int) + 1 < (i : Int) + 1) = false := decide_eq_false (by omega)
        have z0 := HCell.out wr HI.out i (by omega)
        have HLa := Lib.hid (walk_last (ts := ts) (cs := ccls cvs) (lines := lines) (i := i) (by rw [HN.out]) (i + 1))
        obtain ⟨x, hx⟩ : ∃ x, partAt lines i = x := ⟨_, rfl⟩
        rw [hx] at z0 HLa
        have HX := Lib.hid hx
        clear hx
        by_cases he : x = ⟨#[]⟩
        · subst he
          have HR2 := Lib.hid (show readL [] [] s 1 = (some (ts, ccls cvs), 0) by rw [HI.out.walk, HLa.out, if_pos rfl])
          obtain ⟨q0, q1⟩ : wr.cell? ⟨w.heap.size + 1, 0, none⟩ = some (.slice ao ts.length cap) ∧ wr.cell? ⟨w.heap.size + 1, 1, none⟩ = some (.slice bo cvs.length dap) := ⟨heap_cell HI.out.sb.blk rfl, heap_cell HI.out.sb.blk rfl⟩
          have HCk := Lib.hid (rCheck7_s _ ts (ccls cvs) wr (HI.out.sb.schv HI.out.smT HI.out.smC))
          obtain ⟨c, hc⟩ : ∃ c, chkS ts (ccls cvs) = c := ⟨_, rfl⟩
          rw [hc] at HCk
          have HC := Lib.hid hc
          clear hc
          go_wp2_with fail
          refine HCk.out.mono ?_
          rintro e w2 ⟨rfl, hb⟩
          have HI2 := Lib.hid (HI.out.below hb)
          obtain ⟨q0, q1⟩ : w2.cell? ⟨w.heap.size + 1, 0, none⟩ = some (.slice ao ts.length cap) ∧ w2.cell? ⟨w.heap.size + 1, 1, none⟩ = some (.slice bo cvs.length dap) := ⟨heap_cell HI2.out.sb.blk rfl, heap_cell HI2.out.sb.blk rfl⟩
          obtain ⟨r0, r1⟩ : w2.cell? ⟨w.heap.size, 0, none⟩ = some (.slice none 0 0) ∧ w2.cell? ⟨w.heap.size, 1, none⟩ = some (.slice none 0 0) := ⟨heap_cell HI2.out.res rfl, heap_cell HI2.out.res rfl⟩
          have f0 : w2.frozen? ⟨w.heap.size, 0, none⟩ = false := heap_frozen HI2.out.res
          have f1 : w2.frozen? ⟨w.heap.size, 1, none⟩ = false := heap_frozen HI2.out.res
          clear hb
          by_cases h0 : c = 0
          · subst h0
            go_wp2_with fail
            refine bodyPost_ret (v := .tuple #[.agg #[.slice ao ts.length cap, .slice bo cvs.length dap], .int .i64 0, .int .i64 0]) (by simp only [results, Tryz.results18]; go_simp) rfl ?_
            exact ParP.yes hle HR2.out HC.out (((HI2.out.sb.other ⟨w.heap.size, 0, none⟩ (Nat.lt_succ_self _) _).other ⟨w.heap.size, 1, none⟩ (Nat.lt_succ_self _) _).schv HI2.out.smT HI2.out.smC) (below_set1 (below_set1 HI2.out.low w.heap.size 0 (Nat.le_refl _) _) w.heap.size 1 (Nat.le_refl _) _)
          · go_wp2_with fail
            refine bodyPost_ret (v := .tuple #[.agg #[.slice none 0 0, .slice none 0 0], .int .i64 0, .int .i64 c]) (by simp only [results, Tryz.results18]; go_simp) rfl ?_
            exact ParP.bad hle HR2.out HC.out h0 (below_set1 (below_set1 HI2.out.low w.heap.size 0 (Nat.le_refl _) _) w.heap.size 1 (Nat.le_refl _) _)
        · have e1 := emp_false he
          have e2 : (x.toList != []) = true := by cases h : x.toList with | nil => rw [h] at e1; cases e1 | cons => rfl
          have HE := Lib.hid (show readL [] [] s 1 = (none, i + 1) by rw [HI.out.walk, HLa.out, if_neg he])
          clear he
          obtain ⟨r0, r1⟩ : wr.cell? ⟨w.heap.size, 0, none⟩ = some (.slice none 0 0) ∧ wr.cell? ⟨w.heap.size, 1, none⟩ = some (.slice none 0 0) := ⟨heap_cell HI.out.res rfl, heap_cell HI.out.res rfl⟩
          have f0 : wr.frozen? ⟨w.heap.size, 0, none⟩ = false := heap_frozen HI.out.res
          have f1 : wr.frozen? ⟨w.heap.size, 1, none⟩ = false := heap_frozen HI.out.res
          go_wp2_with fail
          refine bodyPost_ret (v := .tuple #[.agg #[.slice none 0 0, .slice none 0 0], .int .i64 ((i : Int) + 1), .int .i64 4]) (by simp only [results, Tryz.results18]; go_simp) rfl ?_
          exact ParP.no hle HE.out (below_set1 (below_set1 HI.out.low w.heap.size 0 (Nat.le_refl _) _) w.heap.size 1 (Nat.le_refl _) _)
end Go.Proofs.YtmmdaegdkikkpaaGreatDoor
end
