/-
  Texts of the schema layer and of those beneath it, joined: SchAln, SchPar. Conditions stand at each contract.
-/
import Derived.Test.YtclfjdnemafmeaaGreatDoorM09
import Derived.Test.YtclfjdnemafmeaaGreatDoorM21

section
/-
  Contract of schema's addLine (the schema that is read). Condition: lines of at most 1000000 bytes; the schema lies behind the pointer in a block and two rows of the call's own.
-/
set_option maxRecDepth 100000
set_option linter.unusedVariables false
set_option linter.unusedSimpArgs false
set_option linter.unnecessarySimpa false
namespace Go.Proofs.YtclfjdnemafmeaaGreatDoor
open Go.RowKit Go.PlainAid

theorem word_eq (s : ByteArray) (l : List UInt8) : (s.toList == l) = decide (s = ⟨l.toArray⟩) := by
  have h := str_eq s ⟨l.toArray⟩
  rwa [show (⟨l.toArray⟩ : ByteArray).toList = l by rw [Lib.toList_data]] at h
theorem StrsAt.tail {w : World} {b off n cap : Nat} {l : List ByteArray} (h : StrsAt w (some ⟨b, off, none⟩) n cap l) (hn : 0 < n) : StrsAt w (some ⟨b, off + 1, none⟩) (n - 1) (cap - 1) l.tail := by
  cases l with
  | nil => have := h.1; simp at this; omega
  | cons p r => exact h.drop
set_option maxHeartbeats 8000000 in
theorem addLine_s (b : Nat) (ts : List Ty) (cvs : List Cv) (vt vc : Value) (s : ByteArray) (w : World) (h : SB w b ts cvs vt vc) (hs : s.size ≤ 1000000) (hm : MaxOk w) (hg : 1 < w.heap.size) (ho : SynOk w) (hn1 : ts.length ≤ 100000000) (hn2 : cvs.length ≤ 100000000) :
    Calls Tryz.prog 75 #[.pointer (some ⟨b, 0, none⟩), .string s] w fun e w' => LineP b ts cvs s w e w' := by
  obtain ⟨ca, cc, rfl, _⟩ := cls_own h.rowC rfl h.ok
  have HC := Lib.hid (splitF_s 32 s w hs hm)
  have hpl := partsB_len 32 s
  have hle := partsB_le 32 s
  have HZ := Lib.hid (fun x (hx : x ∈ partsB 32 s) => Nat.le_trans (partsB_small hx) hs)
  have HSB := Lib.hid h
  have HM := Lib.hid (And.intro hm ho)
  have hblt := h.lt
  obtain ⟨ps, hps⟩ : ∃ ps, partsB 32 s = ps := ⟨_, rfl⟩
  rw [hps] at HC hpl hle HZ
  have HPs := Lib.hid hps
  clear h hm ho hps
  go_enter Tryz.func75, Tryz.ntmps75
  go_wp2_with fail
  refine HC.out.mono ?_
  rintro e w1 ⟨rfl, hS, hb⟩
  have z0 := (hS.2.2.2 (by omega))
  obtain ⟨g, off, e, hg1, hc⟩ := z0
  simp only [Option.some.injEq, Addr.mk.injEq, and_true] at e
  obtain ⟨rfl, rfl⟩ := e
  have hc0 := hc 0 (by omega)
  rw [Nat.zero_add] at hc0
  have HSt := Lib.hid (hS.tail (by omega))
  obtain ⟨k, hk⟩ : ∃ k, ps.length = k + 1 := ⟨ps.length - 1, by omega⟩
  obtain ⟨x0, hx0⟩ : ∃ x, partAt ps 0 = x := ⟨_, rfl⟩
  rw [hx0] at hc0
  have HX0 := Lib.hid hx0
  have HB1 := Lib.hid hb
  have HS1 := Lib.hid (HSB.out.below hb)
  have HM1 := Lib.hid (And.intro (HM.out.1.below hb hg) (HM.out.2.below hb))
  have w0 := word_eq x0 [116, 121, 112, 101]
  have w1' := word_eq x0 [99, 108, 97, 115, 115]
  rw [hk] at HSt hle ⊢
  have HTz := Lib.hid (fun x (hx : x ∈ ps.tail) => HZ.out x (List.mem_of_mem_tail hx))
  have hkl : ps.tail.length = k := by rw [List.length_tail]; omega
  have HSt0 := Lib.hid (show k = 0 → StrsAt w1 (some ⟨w.heap.size, 0, none⟩) 0 0 ps.tail from fun e => ⟨by omega, Nat.le_refl _, by unfold maxLen; omega, fun h => absurd h (Nat.lt_irrefl _)⟩)
  have hs1 : w.heap.size < w1.heap.size := hg1
  have hg2 : 1 < w1.heap.size := by omega
  have HBw := Lib.hid (show Below w.heap.size w w1 from hb)
  clear hS hb hc hx0 HC HM hpl HSB
  by_cases h1 : x0 = (⟨[116, 121, 112, 101].toArray⟩ : ByteArray)
  · rw [decide_eq_true h1] at w0
    have key : ∀ (ao : Option Addr) (cap : Nat), StrsAt w1 ao k cap ps.tail → Calls Tryz.prog 115 #[.slice ao k cap] w1 fun e w' => e = .returned (.tuple #[tyV ((rdType ps.tail).getD zeroTy), .bool (rdType ps.tail).isSome]) ∧ Below w1.heap.size w1 w' := fun ao cap h => readType_s ao k cap ps.tail w1 h HTz.out HM1.out.2
    have HKey := Lib.hid key
    obtain ⟨⟨tn, syn, sg⟩, htt⟩ : ∃ t, (rdType ps.tail).getD zeroTy = t := ⟨_, rfl⟩
    obtain ⟨ok, hok⟩ : ∃ b, (rdType ps.tail).isSome = b := ⟨_, rfl⟩
    have HT := Lib.hid (lineL_type (ts := ts) (cls := ccls cvs) HPs.out (HX0.out.trans h1) htt hok)
    rw [htt, hok] at HKey
    unfold tyV at HKey
    clear key htt hok w1' h1
    rcases Nat.eq_zero_or_pos k with h0 | h0
    · subst h0
      go_wp2_with fail
      refine (HKey.out _ _ (HSt0.out trivial)).mono ?_
      rintro e w2 ⟨rfl, hb⟩
      have HS2 := Lib.hid (HS1.out.below hb)
      have HB2 := Lib.hid (HBw.out.trans (hb.mono (Nat.le_of_lt hs1)))
      obtain ⟨q0, q1⟩ : w2.cell? ⟨b, 0, none⟩ = some vt ∧ w2.cell? ⟨b, 1, none⟩ = some (.slice ca cvs.length cc) := ⟨heap_cell HS2.out.blk rfl, heap_cell HS2.out.blk rfl⟩
      have f0 : w2.frozen? ⟨b, 0, none⟩ = false := heap_frozen HS2.out.blk
      have hb2 : b < w2.heap.size := HS2.out.lt
      have HRow := Lib.hid HS2.out.rowT
      clear hb HKey
      go_wp2_with fail
      go_region_law (refine step_push_type (w2.alloc (.cells #[.string tn, .int .i64 syn, .bool sg] 32)).drew (base := b + 1) (v := vt) (n := ts.length) (xs := ycells ts) (show World.ownsRow _ _ _ _ _ _ _ from HRow.out.alloc _) _ _ ⟨tn, syn, sg⟩ rfl rfl rfl (by simp [Act.eval, Act.put]) (by omega) (by simp; omega) ?_; intro v' w' g1 g2 g3; obtain ⟨ao', cap', rfl⟩ := row_slice g1; obtain ⟨qA, fA, hS3, hB3⟩ := HS2.out.reg_t _ _ g2 g1 g3; have HS3 := Lib.hid hS3; have HB3 := Lib.hid hB3; clear g1 g2 g3 hS3 hB3)
      all_goals
        have q3 : (w'.setCell ⟨b, 0, none⟩ (.slice ao' (ts.length + 1) cap')).cell? ⟨b, 1, none⟩ = some (.slice ca cvs.length cc) := heap_cell HS3.out.blk rfl
        have HBB := Lib.hid ((HB2.out.mono (Nat.le_of_lt hblt)).trans HB3.out)
        clear HB3 HB2 HS2 HRow HS1 HBw HB1
        cases ok
        · go_wp2_with fail
          go_ret
          exact LineP.no (HT.out) (if_neg (by simp)) HS3.out HBB.out
        · by_cases hz : cvs.length = 0
          · have d1 : (cvs.length : Int) = 0 := by omega
            have hcl : ccls cvs = [] := by obtain rfl := List.eq_nil_of_length_eq_zero hz; rfl
            go_wp2_with fail
            go_ret
            exact LineP.yes HT.out (ts' := ts ++ [⟨tn, syn, sg⟩]) (cvs' := cvs) (by rw [hcl]; simp) HS3.out HBB.out
          · have d1 : ¬ (cvs.length : Int) = 0 := by omega
            have d2 : ((cvs.length : Int) == 0) = false := beq_false_of_ne d1
            have hcl : ¬ ccls cvs = [] := fun e => hz (by rw [← ccls_len, e]; rfl)
            go_wp2_with fail
            go_ret
            exact LineP.no HT.out (by simp [hcl]) HS3.out HBB.out
    · go_wp2_with fail
      refine (HKey.out _ _ (HSt.out)).mono ?_
      rintro e w2 ⟨rfl, hb⟩
      have HS2 := Lib.hid (HS1.out.below hb)
      have HB2 := Lib.hid (HBw.out.trans (hb.mono (Nat.le_of_lt hs1)))
      obtain ⟨q0, q1⟩ : w2.cell? ⟨b, 0, none⟩ = some vt ∧ w2.cell? ⟨b, 1, none⟩ = some (.slice ca cvs.length cc) := ⟨heap_cell HS2.out.blk rfl, heap_cell HS2.out.blk rfl⟩
      have f0 : w2.frozen? ⟨b, 0, none⟩ = false := heap_frozen HS2.out.blk
      have hb2 : b < w2.heap.size := HS2.out.lt
      have HRow := Lib.hid HS2.out.rowT
      clear hb HKey
      go_wp2_with fail
      go_region_law (refine step_push_type (w2.alloc (.cells #[.string tn, .int .i64 syn, .bool sg] 32)).drew (base := b + 1) (v := vt) (n := ts.length) (xs := ycells ts) (show World.ownsRow _ _ _ _ _ _ _ from HRow.out.alloc _) _ _ ⟨tn, syn, sg⟩ rfl rfl rfl (by simp [Act.eval, Act.put]) (by omega) (by simp; omega) ?_; intro v' w' g1 g2 g3; obtain ⟨ao', cap', rfl⟩ := row_slice g1; obtain ⟨qA, fA, hS3, hB3⟩ := HS2.out.reg_t _ _ g2 g1 g3; have HS3 := Lib.hid hS3; have HB3 := Lib.hid hB3; clear g1 g2 g3 hS3 hB3)
      all_goals
        have q3 : (w'.setCell ⟨b, 0, none⟩ (.slice ao' (ts.length + 1) cap')).cell? ⟨b, 1, none⟩ = some (.slice ca cvs.length cc) := heap_cell HS3.out.blk rfl
        have HBB := Lib.hid ((HB2.out.mono (Nat.le_of_lt hblt)).trans HB3.out)
        clear HB3 HB2 HS2 HRow HS1 HBw HB1
        cases ok
        · go_wp2_with fail
          go_ret
          exact LineP.no (HT.out) (if_neg (by simp)) HS3.out HBB.out
        · by_cases hz : cvs.length = 0
          · have d1 : (cvs.length : Int) = 0 := by omega
            have hcl : ccls cvs = [] := by obtain rfl := List.eq_nil_of_length_eq_zero hz; rfl
            go_wp2_with fail
            go_ret
            exact LineP.yes HT.out (ts' := ts ++ [⟨tn, syn, sg⟩]) (cvs' := cvs) (by rw [hcl]; simp) HS3.out HBB.out
          · have d1 : ¬ (cvs.length : Int) = 0 := by omega
            have d2 : ((cvs.length : Int) == 0) = false := beq_false_of_ne d1
            have hcl : ¬ ccls cvs = [] := fun e => hz (by rw [← ccls_len, e]; rfl)
            go_wp2_with fail
            go_ret
            exact LineP.no HT.out (by simp [hcl]) HS3.out HBB.out
  · rw [decide_eq_false h1] at w0
    by_cases h2 : x0 = (⟨[99, 108, 97, 115, 115].toArray⟩ : ByteArray)
    · rw [decide_eq_true h2] at w1'
      have HKey := Lib.hid (fun (ao : Option Addr) (cap : Nat) (h : StrsAt w1 ao k cap ps.tail) => readClass_s ao k cap ps.tail w1 h HTz.out HM1.out.1 hg2)
      obtain ⟨ok, hok⟩ : ∃ b, (rdClass ps.tail).isSome = b := ⟨_, rfl⟩
      have HT := Lib.hid (fun c hc => lineL_class (ts := ts) (cls := ccls cvs) (c := c) HPs.out (HX0.out.trans h2) hc hok)
      rw [hok] at HKey
      clear hok h1 h2
      rcases Nat.eq_zero_or_pos k with h0 | h0
      · subst h0
        go_wp2_with fail
        refine (HKey.out _ _ (HSt0.out trivial)).mono ?_
        rintro e w2 ⟨⟨⟨cn, cs, cm, cy⟩, hm0, hy0⟩, a1, p1, q1, a2, p2, q2, rfl, rfl, hcv, hcl, rfl, ⟨fr1, fr2⟩, hb⟩
        have HS2 := Lib.hid (HS1.out.below hb)
        have HD := Lib.hid (And.intro hcv (And.intro (FarV.fresh HS1.out (n := p1) (c := q1) fr1) (FarV.fresh HS1.out (n := p2) (c := q2) fr2)))
        have HCl := Lib.hid hcl
        have HB2 := Lib.hid (HBw.out.trans (hb.mono (Nat.le_of_lt hs1)))
        obtain ⟨q0, q1'⟩ : w2.cell? ⟨b, 0, none⟩ = some vt ∧ w2.cell? ⟨b, 1, none⟩ = some (.slice ca cvs.length cc) := ⟨heap_cell HS2.out.blk rfl, heap_cell HS2.out.blk rfl⟩
        have f0 : w2.frozen? ⟨b, 1, none⟩ = false := heap_frozen HS2.out.blk
        have hb2 : b < w2.heap.size := HS2.out.lt
        have HRow := Lib.hid HS2.out.rowC
        clear hb HKey fr1 fr2 hcv hcl
        go_wp2_with fail
        go_region_law (refine step_push_class (w2.alloc (.cells #[.string cn, .string cs, .slice a1 p1 q1, .slice a2 p2 q2] 57)).drew (base := b + 1) (v := .slice ca cvs.length cc) (n := cvs.length) (xs := ccells cvs) (show World.ownsRow _ _ _ _ _ _ _ from HRow.out.alloc _) _ _ ⟨⟨cn, cs, cm, cy⟩, .slice a1 p1 q1, .slice a2 p2 q2⟩ HD.out.1 rfl rfl rfl (by simp [Act.eval, Act.put]) (by omega) (by simp; omega) ?_; intro v' w' g1 g2 g3; obtain ⟨ao', cap', rfl⟩ := row_slice g1; obtain ⟨qA, fA, hS3, hB3⟩ := HS2.out.reg_c HD.out.1 HD.out.2 _ _ g2 g1 g3; have HS3 := Lib.hid hS3; have HB3 := Lib.hid hB3; clear g1 g2 g3 hS3 hB3)
        all_goals
          have HBB := Lib.hid ((HB2.out.mono (Nat.le_of_lt hblt)).trans HB3.out)
          clear HB3 HB2 HS2 HRow HS1 HBw HB1
          cases ok
          · go_wp2_with fail
            go_ret
            exact LineP.no (HT.out _ HCl.out) (if_neg (by simp)) HS3.out HBB.out
          · go_wp2_with fail
            go_ret
            exact LineP.yes (HT.out _ HCl.out) (ts' := ts) (cvs' := cvs ++ [⟨⟨cn, cs, cm, cy⟩, .slice a1 p1 q1, .slice a2 p2 q2⟩]) (by simp [ccls]) HS3.out HBB.out
      · go_wp2_with fail
        refine (HKey.out _ _ (HSt.out)).mono ?_
        rintro e w2 ⟨⟨⟨cn, cs, cm, cy⟩, hm0, hy0⟩, a1, p1, q1, a2, p2, q2, rfl, rfl, hcv, hcl, rfl, ⟨fr1, fr2⟩, hb⟩
        have HS2 := Lib.hid (HS1.out.below hb)
        have HD := Lib.hid (And.intro hcv (And.intro (FarV.fresh HS1.out (n := p1) (c := q1) fr1) (FarV.fresh HS1.out (n := p2) (c := q2) fr2)))
        have HCl := Lib.hid hcl
        have HB2 := Lib.hid (HBw.out.trans (hb.mono (Nat.le_of_lt hs1)))
        obtain ⟨q0, q1'⟩ : w2.cell? ⟨b, 0, none⟩ = some vt ∧ w2.cell? ⟨b, 1, none⟩ = some (.slice ca cvs.length cc) := ⟨heap_cell HS2.out.blk rfl, heap_cell HS2.out.blk rfl⟩
        have f0 : w2.frozen? ⟨b, 1, none⟩ = false := heap_frozen HS2.out.blk
        have hb2 : b < w2.heap.size := HS2.out.lt
        have HRow := Lib.hid HS2.out.rowC
        clear hb HKey fr1 fr2 hcv hcl
        go_wp2_with fail
        go_region_law (refine step_push_class (w2.alloc (.cells #[.string cn, .string cs, .slice a1 p1 q1, .slice a2 p2 q2] 57)).drew (base := b + 1) (v := .slice ca cvs.length cc) (n := cvs.length) (xs := ccells cvs) (show World.ownsRow _ _ _ _ _ _ _ from HRow.out.alloc _) _ _ ⟨⟨cn, cs, cm, cy⟩, .slice a1 p1 q1, .slice a2 p2 q2⟩ HD.out.1 rfl rfl rfl (by simp [Act.eval, Act.put]) (by omega) (by simp; omega) ?_; intro v' w' g1 g2 g3; obtain ⟨ao', cap', rfl⟩ := row_slice g1; obtain ⟨qA, fA, hS3, hB3⟩ := HS2.out.reg_c HD.out.1 HD.out.2 _ _ g2 g1 g3; have HS3 := Lib.hid hS3; have HB3 := Lib.hid hB3; clear g1 g2 g3 hS3 hB3)
        all_goals
          have HBB := Lib.hid ((HB2.out.mono (Nat.le_of_lt hblt)).trans HB3.out)
          clear HB3 HB2 HS2 HRow HS1 HBw HB1
          cases ok
          · go_wp2_with fail
            go_ret
            exact LineP.no (HT.out _ HCl.out) (if_neg (by simp)) HS3.out HBB.out
          · go_wp2_with fail
            go_ret
            exact LineP.yes (HT.out _ HCl.out) (ts' := ts) (cvs' := cvs ++ [⟨⟨cn, cs, cm, cy⟩, .slice a1 p1 q1, .slice a2 p2 q2⟩]) (by simp [ccls]) HS3.out HBB.out
    · rw [decide_eq_false h2] at w1'
      have HT := Lib.hid (lineL_other (ts := ts) (cls := ccls cvs) HPs.out (fun e => h1 (HX0.out.symm.trans e)) (fun e => h2 (HX0.out.symm.trans e)))
      clear h1 h2
      go_wp2_with fail
      go_ret
      exact LineP.no HT.out rfl HS1.out (HBw.out.mono (Nat.le_of_lt hblt))

end Go.Proofs.YtclfjdnemafmeaaGreatDoor
end

section
/-
  Contract of schema's Parse. Condition: a text of at most 1000000 bytes; the package's words as the card says.
-/
set_option maxRecDepth 100000
set_option linter.unusedVariables false
set_option linter.unusedSimpArgs false
set_option linter.unnecessarySimpa false
namespace Go.Proofs.YtclfjdnemafmeaaGreatDoor
open Go.RowKit Go.PlainAid

theorem cutF_s (t : ByteArray) (b : UInt8) (w : World) (ht : t.size ≤ 1000000) (hm : MaxOk w) :
    Calls Tryz.prog 74 #[.string t, .string ⟨#[b]⟩] w fun e w' => e = .returned (.tuple #[.string (cutBef t ⟨#[b]⟩), .string (cutAft t ⟨#[b]⟩), .bool (cutOk t ⟨#[b]⟩)]) ∧ Below w.heap.size w w' := by
  obtain ⟨m, hm⟩ := hm
  refine (Tryz.strings_Cut t ⟨#[b]⟩ m w (by omega) hm).mono fun e w' h => ⟨h.1, ?_⟩
  obtain ⟨n, rfl⟩ := h.2
  exact ⟨rfl, rfl, rfl, Nat.le_refl _, fun _ _ => rfl⟩
theorem cut_lt {s : ByteArray} (h : cutOk s ⟨#[10]⟩ = true) : (cutAft s ⟨#[10]⟩).size < s.size ∧ (cutBef s ⟨#[10]⟩).size ≤ s.size := by
  rcases cut_one s 10 with ⟨_, _, h1, h2, _⟩ | ⟨h0, _⟩
  · exact ⟨h1, h2⟩
  · rw [h] at h0; cases h0
/-- the lines read onto a schema: the schema, or the number of the line with the first fault -/
def readL (ts : List Ty) (cs : List Cl) (s : ByteArray) (n : Nat) : Option (List Ty × List Cl) × Nat :=
  if s = ⟨#[]⟩ then (some (ts, cs), 0)
  else if hc : cutOk s ⟨#[10]⟩ = true then
    match lineL ts cs (cutBef s ⟨#[10]⟩) with
    | some r => readL r.1 r.2 (cutAft s ⟨#[10]⟩) (n + 1)
    | none => (none, n)
  else (none, n)
termination_by s.size
decreasing_by exact (cut_lt hc).1
theorem readL_end (ts : List Ty) (cs : List Cl) (n : Nat) : readL ts cs ⟨#[]⟩ n = (some (ts, cs), 0) := by
  rw [readL]; exact if_pos rfl
theorem readL_cut {ts : List Ty} {cs : List Cl} {s : ByteArray} {n : Nat} (h : s ≠ ⟨#[]⟩) (hc : cutOk s ⟨#[10]⟩ = false) : readL ts cs s n = (none, n) := by
  rw [readL, if_neg h, dif_neg (by rw [hc]; decide)]
theorem readL_bad {ts : List Ty} {cs : List Cl} {s : ByteArray} {n : Nat} (h : s ≠ ⟨#[]⟩) (hl : lineL ts cs (cutBef s ⟨#[10]⟩) = none) : readL ts cs s n = (none, n) := by
  rw [readL, if_neg h]
  split
  · rw [hl]
  · rfl
theorem readL_step {ts : List Ty} {cs : List Cl} {s : ByteArray} {n : Nat} {r : List Ty × List Cl} (h : s ≠ ⟨#[]⟩) (hc : cutOk s ⟨#[10]⟩ = true) (hl : lineL ts cs (cutBef s ⟨#[10]⟩) = some r) : readL ts cs s n = readL r.1 r.2 (cutAft s ⟨#[10]⟩) (n + 1) := by
  rw [readL, if_neg h, dif_pos hc, hl]
theorem part_sz {l : List ByteArray} {N : Nat} (h : ∀ x ∈ l, x.size ≤ N) (j : Nat) : (partAt l j).size ≤ N := by
  unfold partAt
  rw [List.getD_eq_getElem?_getD]
  cases e : l[j]? with
  | none => simp
  | some x => exact h x (List.mem_of_getElem? e)
theorem rdList_sz {s : ByteArray} {x : ByteArray} (h : x ∈ rdListV s) : x.size ≤ s.size := by
  unfold rdListV at h
  split at h
  · cases h
  · split at h
    · exact partsB_small h
    · cases h
theorem sup_sz (s : ByteArray) : (supV s).size ≤ s.size := by
  unfold supV
  split
  · exact Nat.zero_le _
  · exact Nat.le_refl _
theorem rdType_sz {l : List ByteArray} {N : Nat} (h : ∀ x ∈ l, x.size ≤ N) {t : Ty} (ht : rdType l = some t) : t.name.size ≤ N := by
  have key : ∀ b, rdTy l b = some t → t.name.size ≤ N := fun b hb => by
    unfold rdTy at hb
    split at hb
    · rw [← Option.some.inj hb]; exact part_sz h 0
    · cases hb
  unfold rdType at ht
  split at ht
  · exact key _ ht
  · split at ht
    · exact key _ ht
    · cases ht
theorem rdClass_sz {l : List ByteArray} {N : Nat} (h : ∀ x ∈ l, x.size ≤ N) {c : Cl} (hc : rdClass l = some c) : c.name.size ≤ N ∧ c.super.size ≤ N ∧ (∀ s ∈ c.must, s.size ≤ N) ∧ ∀ s ∈ c.may, s.size ≤ N := by
  unfold rdClass at hc
  split at hc
  · split at hc
    · rw [← Option.some.inj hc]
      exact ⟨part_sz h 0, Nat.le_trans (sup_sz _) (part_sz h 1), fun s hs => Nat.le_trans (rdList_sz hs) (part_sz h 2), fun s hs => Nat.le_trans (rdList_sz hs) (part_sz h 3)⟩
    · cases hc
  · cases hc
theorem lineL_sm {ts : List Ty} {cs : List Cl} {s : ByteArray} {r : List Ty × List Cl} (h : lineL ts cs s = some r) (hs : s.size ≤ 1000000) (h1 : SmT ts) (h2 : SmC cs) : SmT r.1 ∧ SmC r.2 ∧ r.1.length + r.2.length = ts.length + cs.length + 1 := by
  have hz : ∀ x ∈ (partsB 32 s).tail, x.size ≤ 1000000000 := fun x hx => Nat.le_trans (partsB_small (List.mem_of_mem_tail hx)) (by omega)
  unfold lineL at h
  split at h
  · split at h
    · rename_i t ht
      split at h
      · rw [← Option.some.inj h]
        refine ⟨fun u hu => ?_, h2, by simp; omega⟩
        rcases List.mem_append.1 hu with hu | hu
        · exact h1 u hu
        · rw [List.mem_singleton.1 hu]; exact rdType_sz hz ht
      · cases h
    · cases h
  · split at h
    · split at h
      · rename_i c hc
        rw [← Option.some.inj h]
        refine ⟨h1, fun u hu => ?_, by simp; omega⟩
        rcases List.mem_append.1 hu with hu | hu
        · exact h2 u hu
        · rw [List.mem_singleton.1 hu]; exact rdClass_sz hz hc
      · cases h
    · cases h
def parE (s : ByteArray) : Int := if 4096 < s.size then 3 else match (readL [] [] s 1).1 with
  | none => 4
  | some r => chkS r.1 r.2
def parN (s : ByteArray) : Nat := if 4096 < s.size then 0 else match (readL [] [] s 1).1 with
  | none => (readL [] [] s 1).2
  | some _ => 0
def parR (s : ByteArray) : List Ty × List Cl := if 4096 < s.size then ([], []) else match (readL [] [] s 1).1 with
  | none => ([], [])
  | some r => if chkS r.1 r.2 = 0 then r else ([], [])
def ParP (s : ByteArray) (w : World) (e : Ending) (w' : World) : Prop :=
  ∃ v, e = .returned (.tuple #[v, .int .i64 (parN s), .int .i64 (parE s)]) ∧ SchV w' v (parR s).1 (parR s).2 ∧ Below w.heap.size w w'
theorem schv_nil (w : World) : SchV w (.agg #[.slice none 0 0, .slice none 0 0]) [] [] :=
  ⟨none, 0, 0, none, 0, 0, rfl, ⟨rfl, Nat.le_refl _, by unfold maxLen; omega, fun h => absurd h (Nat.lt_irrefl _)⟩, ⟨rfl, Nat.le_refl _, by unfold maxLen; omega, fun h => absurd h (Nat.lt_irrefl _)⟩, (fun _ h => by cases h), (fun _ h => by cases h)⟩
theorem ParP.no {s : ByteArray} {w w' : World} {n : Nat} (hs : s.size ≤ 4096) (h : readL [] [] s 1 = (none, n)) (hb : Below w.heap.size w w') : ParP s w (.returned (.tuple #[.agg #[.slice none 0 0, .slice none 0 0], .int .i64 n, .int .i64 4])) w' := by
  have hn : ¬ 4096 < s.size := by omega
  have e1 : parN s = n := by unfold parN; rw [if_neg hn, h]
  have e2 : parE s = 4 := by unfold parE; rw [if_neg hn, h]
  have e3 : parR s = ([], []) := by unfold parR; rw [if_neg hn, h]
  exact ⟨_, by rw [e1, e2], by rw [e3]; exact schv_nil w', hb⟩
theorem ParP.big {s : ByteArray} {w w' : World} (hs : 4096 < s.size) (hb : Below w.heap.size w w') : ParP s w (.returned (.tuple #[.agg #[.slice none 0 0, .slice none 0 0], .int .i64 0, .int .i64 3])) w' := by
  have e1 : parN s = 0 := if_pos hs
  have e2 : parE s = 3 := if_pos hs
  have e3 : parR s = ([], []) := if_pos hs
  exact ⟨_, by rw [e1, e2]; rfl, by rw [e3]; exact schv_nil w', hb⟩
theorem ParP.bad {s : ByteArray} {w w' : World} {r : List Ty × List Cl} {q : Nat} {c : Int} (hs : s.size ≤ 4096) (h : readL [] [] s 1 = (some r, q)) (hc : chkS r.1 r.2 = c) (h0 : c ≠ 0) (hb : Below w.heap.size w w') : ParP s w (.returned (.tuple #[.agg #[.slice none 0 0, .slice none 0 0], .int .i64 0, .int .i64 c])) w' := by
  have hn : ¬ 4096 < s.size := by omega
  have e1 : parN s = 0 := by unfold parN; rw [if_neg hn, h]
  have e2 : parE s = c := by unfold parE; rw [if_neg hn, h]; exact hc
  have e3 : parR s = ([], []) := by unfold parR; rw [if_neg hn, h]; exact if_neg (by rw [hc]; exact h0)
  exact ⟨_, by rw [e1, e2]; rfl, by rw [e3]; exact schv_nil w', hb⟩
theorem ParP.yes {s : ByteArray} {w w' : World} {r : List Ty × List Cl} {q : Nat} {v : Value} (hs : s.size ≤ 4096) (h : readL [] [] s 1 = (some r, q)) (hc : chkS r.1 r.2 = 0) (hv : SchV w' v r.1 r.2) (hb : Below w.heap.size w w') : ParP s w (.returned (.tuple #[v, .int .i64 0, .int .i64 0])) w' := by
  have hn : ¬ 4096 < s.size := by omega
  have e1 : parN s = 0 := by unfold parN; rw [if_neg hn, h]
  have e2 : parE s = 0 := by unfold parE; rw [if_neg hn, h]; exact hc
  have e3 : parR s = r := by unfold parR; rw [if_neg hn, h]; exact if_pos hc
  exact ⟨_, by rw [e1, e2]; rfl, by rw [e3]; exact hv, hb⟩
theorem SB.schv {W : World} {b : Nat} {ts : List Ty} {cvs : List Cv} {vt vc : Value} (h : SB W b ts cvs vt vc) (h1 : SmT ts) (h2 : SmC (ccls cvs)) : SchV W (.agg #[vt, vc]) ts (ccls cvs) := by
  obtain ⟨ao, cap, rfl, a1⟩ := tys_own h.rowT rfl
  obtain ⟨bo, dap, rfl, a2⟩ := cls_own h.rowC rfl h.ok
  exact ⟨ao, _, cap, bo, _, dap, rfl, a1, a2, h1, h2⟩
theorem sb_new (w : World) (o : Obj) : SB ((w.alloc o).alloc (.cells #[.slice none 0 0, .slice none 0 0] 25)) (w.heap.size + 1) [] [] (.slice none 0 0) (.slice none 0 0) :=
  ⟨by have := heap_alloc_new (w.alloc o) (.cells #[.slice none 0 0, .slice none 0 0] 25); simpa using this, World.ownsRow_nil _ _ _ _, World.ownsRow_nil _ _ _ _, .inl rfl, (fun _ h => by cases h), (fun _ h => by cases h)⟩
theorem emp_true {s : ByteArray} (h : s = ⟨#[]⟩) : s.toList.isEmpty = true := by rw [h, Lib.toList_data]; rfl
theorem emp_false {s : ByteArray} (h : s ≠ ⟨#[]⟩) : s.toList.isEmpty = false := by
  rw [Lib.toList_data]
  rcases s with ⟨⟨l⟩⟩
  cases l with
  | nil => exact absurd rfl h
  | cons => rfl
def strN : Value → Nat
  | .string s => s.size
  | _ => 0
set_option maxHeartbeats 8000000 in
theorem parseF_s (s : ByteArray) (w : World) (hs : s.size ≤ 1000000000) (hm : MaxOk w) (hg : 1 < w.heap.size) (ho : SynOk w) :
    Calls Tryz.prog 33 #[.string s] w fun e w' => ParP s w e w' := by
  by_cases hbig : 4096 < s.size
  · have d1 : (s.size : Int) > 4096 := by omega
    go_enter Tryz.func33, Tryz.ntmps33
    go_wp2_with fail
    refine bodyPost_ret (v := .tuple #[.agg #[.slice none 0 0, .slice none 0 0], .int .i64 0, .int .i64 3]) (by simp only [results, Tryz.results33]; go_simp) rfl ?_
    exact ParP.big hbig ((Below.refl _ _).alloc (Nat.le_refl _) _)
  · have d1 : ¬ (s.size : Int) > 4096 := by omega
    have hle : s.size ≤ 4096 := by omega
    have hb0 : Below w.heap.size w ((w.alloc (.cells #[.slice none 0 0, .slice none 0 0] 25)).alloc (.cells #[.slice none 0 0, .slice none 0 0] 25)) := ((Below.refl _ _).alloc (Nat.le_refl _) _).alloc (by simp) _
    have HB0 := Lib.hid hb0
    have HSB := Lib.hid (sb_new w (.cells #[.slice none 0 0, .slice none 0 0] 25))
    have HM := Lib.hid (And.intro hm ho)
    clear hb0 hm ho
    go_enter Tryz.func33, Tryz.ntmps33
    go_wp2_with fail
    go_loopw [0, 6, 7, 8, 9] (fun s0 s6 s7 s8 s9 wr => ∃ (ts : List Ty) (cvs : List Cv) (vt vc : Value) (cur : ByteArray) (n : Nat), s0 = .string cur ∧ s6 = .int .i64 n ∧ ts.length + cvs.length + cur.size ≤ 4096 ∧ n + cur.size ≤ 4097 ∧ Hid (SB wr (w.heap.size + 1) ts cvs vt vc) ∧ Hid (readL [] [] s 1 = readL ts (ccls cvs) cur n) ∧ Hid (SmT ts ∧ SmC (ccls cvs)) ∧ Hid (wr.heap[w.heap.size]? = some (.cells #[.slice none 0 0, .slice none 0 0] 25)) ∧ Hid (Below w.heap.size w wr)) (fun s0 _ _ _ _ _ => strN s0)
    case atStart =>
      refine ⟨[], [], _, _, s, 1, rfl, rfl, by simpa using hle, by omega, HSB, Lib.hid rfl, Lib.hid ⟨(fun _ h => by cases h), (fun _ h => by cases h)⟩, Lib.hid ?_, HB0⟩
      exact (Below.heap_alloc _ _ _ (by simp)).trans (heap_alloc_new w _)
    case round =>
      clear HSB HB0
      obtain ⟨ts, cvs, vt, vc, cur, n, rfl, rfl, hl1, hl2, HS, HR, HSm, HBx, HB⟩ := hrel
      have HM2 := Lib.hid (And.intro (HM.out.1.below HB.out hg) (HM.out.2.below HB.out))
      have hlt := HS.out.lt
      obtain ⟨ao, cap, rfl⟩ := row_slice HS.out.rowT
      obtain ⟨bo, dap, rfl⟩ := row_slice HS.out.rowC
      by_cases hz : cur = ⟨#[]⟩
      · have d2 := emp_true hz
        have HR2 := Lib.hid (show readL [] [] s 1 = (some (ts, ccls cvs), 0) by rw [HR.out, hz, readL_end])
        obtain ⟨q0, q1⟩ : wr.cell? ⟨w.heap.size + 1, 0, none⟩ = some (.slice ao ts.length cap) ∧ wr.cell? ⟨w.heap.size + 1, 1, none⟩ = some (.slice bo cvs.length dap) := ⟨heap_cell HS.out.blk rfl, heap_cell HS.out.blk rfl⟩
        have HCk := Lib.hid (checkF_s _ ts (ccls cvs) wr (HS.out.schv HSm.out.1 HSm.out.2))
        obtain ⟨c, hc⟩ : ∃ c, chkS ts (ccls cvs) = c := ⟨_, rfl⟩
        rw [hc] at HCk
        have HC := Lib.hid hc
        clear hz hc
        go_wp2_with fail
        refine HCk.out.mono ?_
        rintro e w2 ⟨rfl, hb⟩
        have HS2 := Lib.hid (HS.out.below hb)
        have HB2 := Lib.hid (HB.out.trans (hb.mono HB.out.size))
        have hx := (hb.block w.heap.size (by omega)).trans HBx.out
        obtain ⟨q0, q1⟩ : w2.cell? ⟨w.heap.size + 1, 0, none⟩ = some (.slice ao ts.length cap) ∧ w2.cell? ⟨w.heap.size + 1, 1, none⟩ = some (.slice bo cvs.length dap) := ⟨heap_cell HS2.out.blk rfl, heap_cell HS2.out.blk rfl⟩
        obtain ⟨r0, r1⟩ : w2.cell? ⟨w.heap.size, 0, none⟩ = some (.slice none 0 0) ∧ w2.cell? ⟨w.heap.size, 1, none⟩ = some (.slice none 0 0) := ⟨heap_cell hx rfl, heap_cell hx rfl⟩
        have f0 : w2.frozen? ⟨w.heap.size, 0, none⟩ = false := heap_frozen hx
        have f1 : w2.frozen? ⟨w.heap.size, 1, none⟩ = false := heap_frozen hx
        clear hb hx
        by_cases h0 : c = 0
        · subst h0
          go_wp2_with fail
          refine bodyPost_ret (v := .tuple #[.agg #[.slice ao ts.length cap, .slice bo cvs.length dap], .int .i64 0, .int .i64 0]) (by simp only [results, Tryz.results33]; go_simp) rfl ?_
          exact ParP.yes hle HR2.out HC.out (((HS2.out.other ⟨w.heap.size, 0, none⟩ (Nat.lt_succ_self _) _).other ⟨w.heap.size, 1, none⟩ (Nat.lt_succ_self _) _).schv HSm.out.1 HSm.out.2) (below_set1 (below_set1 HB2.out w.heap.size 0 (Nat.le_refl _) _) w.heap.size 1 (Nat.le_refl _) _)
        · go_wp2_with fail
          refine bodyPost_ret (v := .tuple #[.agg #[.slice none 0 0, .slice none 0 0], .int .i64 0, .int .i64 c]) (by simp only [results, Tryz.results33]; go_simp) rfl ?_
          exact ParP.bad hle HR2.out HC.out h0 (below_set1 (below_set1 HB2.out w.heap.size 0 (Nat.le_refl _) _) w.heap.size 1 (Nat.le_refl _) _)
      · have d2 := emp_false hz
        have HC := Lib.hid (cutF_s cur 10 wr (by omega) HM2.out.1)
        obtain ⟨ln, hln⟩ : ∃ x, cutBef cur ⟨#[10]⟩ = x := ⟨_, rfl⟩
        obtain ⟨rs, hrs⟩ : ∃ x, cutAft cur ⟨#[10]⟩ = x := ⟨_, rfl⟩
        obtain ⟨ok, hok⟩ : ∃ x, cutOk cur ⟨#[10]⟩ = x := ⟨_, rfl⟩
        rw [hln, hrs, hok] at HC
        have HZ := Lib.hid hz
        clear hz
        cases ok
        · have HR2 := Lib.hid (HR.out.trans (readL_cut HZ.out hok))
          clear hln hrs hok
          go_wp2_with fail
          refine HC.out.mono ?_
          rintro e w2 ⟨rfl, hb⟩
          have HB2 := Lib.hid (HB.out.trans (hb.mono HB.out.size))
          have hx := (hb.block w.heap.size (by omega)).trans HBx.out
          obtain ⟨r0, r1⟩ : w2.cell? ⟨w.heap.size, 0, none⟩ = some (.slice none 0 0) ∧ w2.cell? ⟨w.heap.size, 1, none⟩ = some (.slice none 0 0) := ⟨heap_cell hx rfl, heap_cell hx rfl⟩
          have f0 : w2.frozen? ⟨w.heap.size, 0, none⟩ = false := heap_frozen hx
          have f1 : w2.frozen? ⟨w.heap.size, 1, none⟩ = false := heap_frozen hx
          clear hb hx
          go_wp2_with fail
          refine bodyPost_ret (v := .tuple #[.agg #[.slice none 0 0, .slice none 0 0], .int .i64 n, .int .i64 4]) (by simp only [results, Tryz.results33]; go_simp) rfl ?_
          exact ParP.no hle HR2.out (below_set1 (below_set1 HB2.out w.heap.size 0 (Nat.le_refl _) _) w.heap.size 1 (Nat.le_refl _) _)
        · have hsz := cut_lt hok
          rw [hln, hrs] at hsz
          obtain ⟨lr, hlr⟩ : ∃ x, lineL ts (ccls cvs) ln = x := ⟨_, rfl⟩
          have HLr := Lib.hid (And.intro hok (And.intro hln (And.intro hrs hlr)))
          clear hok hln hrs hlr
          go_wp2_with fail
          refine HC.out.mono ?_
          rintro e w2 ⟨rfl, hb⟩
          have HS2 := Lib.hid (HS.out.below hb)
          have HB2 := Lib.hid (HB.out.trans (hb.mono HB.out.size))
          have hx := (hb.block w.heap.size (by omega)).trans HBx.out
          have HM3 := Lib.hid (And.intro (HM.out.1.below HB2.out hg) (HM.out.2.below HB2.out))
          have HL := Lib.hid (addLine_s (w.heap.size + 1) ts cvs _ _ ln w2 HS2.out (by omega) HM3.out.1 (Nat.lt_of_lt_of_le hg HB2.out.size) HM3.out.2 (by omega) (by omega))
          have hlt2 := HS2.out.lt
          have HX := Lib.hid hx
          clear hb hx
          go_wp2_with fail
          refine HL.out.mono ?_
          rintro e w3 ⟨ts', cvs', vt', vc', rfl, hr, hS3, hb⟩
          rw [HLr.out.2.2.2] at hr ⊢
          have HB3 := Lib.hid (HB2.out.trans (hb.mono (Nat.le_succ _)))
          have hx := (hb.block w.heap.size (Nat.lt_succ_self _)).trans HX.out
          have HS3 := Lib.hid hS3
          clear hb hS3
          cases lr with
          | none =>
            have HR2 := Lib.hid (HR.out.trans (readL_bad HZ.out (by rw [HLr.out.2.1]; exact HLr.out.2.2.2)))
            obtain ⟨r0, r1⟩ : w3.cell? ⟨w.heap.size, 0, none⟩ = some (.slice none 0 0) ∧ w3.cell? ⟨w.heap.size, 1, none⟩ = some (.slice none 0 0) := ⟨heap_cell hx rfl, heap_cell hx rfl⟩
            have f0 : w3.frozen? ⟨w.heap.size, 0, none⟩ = false := heap_frozen hx
            have f1 : w3.frozen? ⟨w.heap.size, 1, none⟩ = false := heap_frozen hx
            clear hr hx
            go_wp2_with fail
            refine bodyPost_ret (v := .tuple #[.agg #[.slice none 0 0, .slice none 0 0], .int .i64 n, .int .i64 4]) (by simp only [results, Tryz.results33]; go_simp) rfl ?_
            exact ParP.no hle HR2.out (below_set1 (below_set1 HB3.out w.heap.size 0 (Nat.le_refl _) _) w.heap.size 1 (Nat.le_refl _) _)
          | some r =>
            have er := hr r rfl
            subst er
            have HX3 := Lib.hid hx
            have hsm := lineL_sm HLr.out.2.2.2 (by omega) HSm.out.1 HSm.out.2
            have hl3 := hsm.2.2
            simp only [ccls_len] at hl3
            have HSm3 := Lib.hid (And.intro hsm.1 hsm.2.1)
            have HR3 := Lib.hid (HR.out.trans ((readL_step HZ.out HLr.out.1 (by rw [HLr.out.2.1]; exact HLr.out.2.2.2)).trans (by rw [HLr.out.2.2.1])))
            clear hr hx hsm
            go_wp2_with fail
            go_roundw
            case rel => exact ⟨ts', cvs', vt', vc', rs, n + 1, rfl, by go_num, by omega, by omega, HS3, HR3, HSm3, HX3, HB3⟩
            case measure => simp [strN]; omega

end Go.Proofs.YtclfjdnemafmeaaGreatDoor
end
