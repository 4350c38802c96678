/-
  Texts of the schema layer and of those beneath it, joined: SchPar, SchKl. Conditions stand at each contract.
-/
import Derived.StillTailTactics
import Derived.Test.YtmmdaegdkikkpaaGreatDoorP06
import Derived.Test.YtmmdaegdkikkpaaGreatDoorP09
import Derived.Test.YtmmdaegdkikkpaaGreatDoorP15
set_option linter.unusedVariables false
set_option linter.unusedSimpArgs false
set_option linter.unnecessarySimpa false

section
/-
  Contract of schema's Parse. Condition: a text of at most 1000000 bytes; the package's words as the card says.
-/
set_option maxRecDepth 100000
namespace Go.Proofs.YtmmdaegdkikkpaaGreatDoor
open Go.RowKit Go.PlainAid
theorem cutF_s (t : ByteArray) (b : UInt8) (w : World) (ht : t.size ≤ 1000000) (hm : MaxOk w) :
    Calls Tryz.prog 63 #[.string t, .string ⟨#[b]⟩] w fun e w' => e = .returned (.tuple #[.string (cutBef t ⟨#[b]⟩), .string (cutAft t ⟨#[b]⟩), .bool (cutOk t ⟨#[b]⟩)]) ∧ Below w.heap.size w w' := by
  obtain ⟨m, hm⟩ := hm
  refine (Tryz.strings_Cut t ⟨#[b]⟩ m w (by omega) hm).mono fun e w' h => ⟨h.1, ?_⟩
  obtain ⟨n, rfl⟩ := h.2
  exact ⟨rfl, rfl, rfl, Nat.le_refl _, fun _ _ => rfl⟩
theorem cut_lt {s : ByteArray} (h : cutOk s ⟨#[10]⟩ = true) : (cutAft s ⟨#[10]⟩).size < s.size ∧ (cutBef s ⟨#[10]⟩).size ≤ s.size := by
  rcases cut_one s 10 with ⟨_, _, h1, h2, _⟩ | ⟨h0, _⟩
  · exact ⟨h1, h2⟩
  · rw [h] at h0; cases h0
/-- the lines read onto a schema: the schema, or the number of the line with the first fault -/
def readL (ts : List Ty) (cs : List Cl) (s : ByteArray) (n : Nat) : Option (List Ty × List Cl) × Nat :=
  if s = ⟨#[]⟩ then (some (ts, cs), 0)
  else if hc : cutOk s ⟨#[10]⟩ = true then
    match lineL ts cs (cutBef s ⟨#[10]⟩) with
    | some r => readL r.1 r.2 (cutAft s ⟨#[10]⟩) (n + 1)
    | none => (none, n)
  else (none, n)
termination_by s.size
decreasing_by exact (cut_lt hc).1
theorem readL_end (ts : List Ty) (cs : List Cl) (n : Nat) : readL ts cs ⟨#[]⟩ n = (some (ts, cs), 0) := by
  rw [readL]; exact if_pos rfl
theorem readL_cut {ts : List Ty} {cs : List Cl} {s : ByteArray} {n : Nat} (h : s ≠ ⟨#[]⟩) (hc : cutOk s ⟨#[10]⟩ = false) : readL ts cs s n = (none, n) := by
  rw [readL, if_neg h, dif_neg (by rw [hc]; decide)]
theorem readL_bad {ts : List Ty} {cs : List Cl} {s : ByteArray} {n : Nat} (h : s ≠ ⟨#[]⟩) (hl : lineL ts cs (cutBef s ⟨#[10]⟩) = none) : readL ts cs s n = (none, n) := by
  rw [readL, if_neg h]
  split
  · rw [hl]
  · rfl
theorem readL_step {ts : List Ty} {cs : List Cl} {s : ByteArray} {n : Nat} {r : List Ty × List Cl} (h : s ≠ ⟨#[]⟩) (hc : cutOk s ⟨#[10]⟩ = true) (hl : lineL ts cs (cutBef s ⟨#[10]⟩) = some r) : readL ts cs s n = readL r.1 r.2 (cutAft s ⟨#[10]⟩) (n + 1) := by
  rw [readL, if_neg h, dif_pos hc, hl]
theorem part_sz {l : List ByteArray} {N : Nat} (h : ∀ x ∈ l, x.size ≤ N) (j : Nat) : (partAt l j).size ≤ N := by
  unfold partAt
  rw [List.getD_eq_getElem?_getD]
  cases e : l[j]? with
  | none => simp
  | some x => exact h x (List.mem_of_getElem? e)
theorem rdList_sz {s : ByteArray} {x : ByteArray} (h : x ∈ rdListV s) : x.size ≤ s.size := by
  unfold rdListV at h
  split at h
  · cases h
  · split at h
    · exact partsB_small h
    · cases h
theorem sup_sz (s : ByteArray) : (supV s).size ≤ s.size := by
  unfold supV
  split
  · exact Nat.zero_le _
  · exact Nat.le_refl _
theorem rdType_sz {l : List ByteArray} {N : Nat} (h : ∀ x ∈ l, x.size ≤ N) {t : Ty} (ht : rdType l = some t) : t.name.size ≤ N := by
  have key : ∀ b, rdTy l b = some t → t.name.size ≤ N := fun b hb => by
    unfold rdTy at hb
    split at hb
    · rw [← Option.some.inj hb]; exact part_sz h 0
    · cases hb
  unfold rdType at ht
  split at ht
  · exact key _ ht
  · split at ht
    · exact key _ ht
    · cases ht
theorem rdClass_sz {l : List ByteArray} {N : Nat} (h : ∀ x ∈ l, x.size ≤ N) {c : Cl} (hc : rdClass l = some c) : c.name.size ≤ N ∧ c.super.size ≤ N ∧ (∀ s ∈ c.must, s.size ≤ N) ∧ ∀ s ∈ c.may, s.size ≤ N := by
  unfold rdClass at hc
  split at hc
  · split at hc
    · rw [← Option.some.inj hc]
      exact ⟨part_sz h 0, Nat.le_trans (sup_sz _) (part_sz h 1), fun s hs => Nat.le_trans (rdList_sz hs) (part_sz h 2), fun s hs => Nat.le_trans (rdList_sz hs) (part_sz h 3)⟩
    · cases hc
  · cases hc
theorem lineL_sm {ts : List Ty} {cs : List Cl} {s : ByteArray} {r : List Ty × List Cl} (h : lineL ts cs s = some r) (hs : s.size ≤ 1000000) (h1 : SmT ts) (h2 : SmC cs) : SmT r.1 ∧ SmC r.2 ∧ r.1.length + r.2.length = ts.length + cs.length + 1 := by
  have hz : ∀ x ∈ (partsB 32 s).tail, x.size ≤ 1000000000 := fun x hx => Nat.le_trans (partsB_small (List.mem_of_mem_tail hx)) (by omega)
  unfold lineL at h
  split at h
  · split at h
    · rename_i t ht
      split at h
      · rw [← Option.some.inj h]
        refine ⟨fun u hu => ?_, h2, by simp; omega⟩
        rcases List.mem_append.1 hu with hu | hu
        · exact h1 u hu
        · rw [List.mem_singleton.1 hu]; exact rdType_sz hz ht
      · cases h
    · cases h
  · split at h
    · split at h
      · rename_i c hc
        rw [← Option.some.inj h]
        refine ⟨h1, fun u hu => ?_, by simp; omega⟩
        rcases List.mem_append.1 hu with hu | hu
        · exact h2 u hu
        · rw [List.mem_singleton.1 hu]; exact rdClass_sz hz hc
      · cases h
    · cases h
def parE (s : ByteArray) : Int := if 4096 < s.size then 3 else match (readL [] [] s 1).1 with
  | none => 4
  | some r => chkS r.1 r.2
def parN (s : ByteArray) : Nat := if 4096 < s.size then 0 else match (readL [] [] s 1).1 with
  | none => (readL [] [] s 1).2
  | some _ => 0
def parR (s : ByteArray) : List Ty × List Cl := if 4096 < s.size then ([], []) else match (readL [] [] s 1).1 with
  | none => ([], [])
  | some r => if chkS r.1 r.2 = 0 then r else ([], [])
def ParP (s : ByteArray) (w : World) (e : Ending) (w' : World) : Prop :=
  ∃ v, e = .returned (.tuple #[v, .int .i64 (parN s), .int .i64 (parE s)]) ∧ SchV w' v (parR s).1 (parR s).2 ∧ Below w.heap.size w w'
theorem schv_nil (w : World) : SchV w (.agg #[.slice none 0 0, .slice none 0 0]) [] [] :=
  ⟨none, 0, 0, none, 0, 0, rfl, ⟨rfl, Nat.le_refl _, by unfold maxLen; omega, fun h => absurd h (Nat.lt_irrefl _)⟩, ⟨rfl, Nat.le_refl _, by unfold maxLen; omega, fun h => absurd h (Nat.lt_irrefl _)⟩, (fun _ h => by cases h), (fun _ h => by cases h)⟩
theorem ParP.no {s : ByteArray} {w w' : World} {n : Nat} (hs : s.size ≤ 4096) (h : readL [] [] s 1 = (none, n)) (hb : Below w.heap.size w w') : ParP s w (.returned (.tuple #[.agg #[.slice none 0 0, .slice none 0 0], .int .i64 n, .int .i64 4])) w' := by
  have hn : ¬ 4096 < s.size := by omega
  have e1 : parN s = n := by unfold parN; rw [if_neg hn, h]
  have e2 : parE s = 4 := by unfold parE; rw [if_neg hn, h]
  have e3 : parR s = ([], []) := by unfold parR; rw [if_neg hn, h]
  exact ⟨_, by rw [e1, e2], by rw [e3]; exact schv_nil w', hb⟩
theorem ParP.big {s : ByteArray} {w w' : World} (hs : 4096 < s.size) (hb : Below w.heap.size w w') : ParP s w (.returned (.tuple #[.agg #[.slice none 0 0, .slice none 0 0], .int .i64 0, .int .i64 3])) w' := by
  have e1 : parN s = 0 := if_pos hs
  have e2 : parE s = 3 := if_pos hs
  have e3 : parR s = ([], []) := if_pos hs
  exact ⟨_, by rw [e1, e2]; rfl, by rw [e3]; exact schv_nil w', hb⟩
theorem ParP.bad {s : ByteArray} {w w' : World} {r : List Ty × List Cl} {q : Nat} {c : Int} (hs : s.size ≤ 4096) (h : readL [] [] s 1 = (some r, q)) (hc : chkS r.1 r.2 = c) (h0 : c ≠ 0) (hb : Below w.heap.size w w') : ParP s w (.returned (.tuple #[.agg #[.slice none 0 0, .slice none 0 0], .int .i64 0, .int .i64 c])) w' := by
  have hn : ¬ 4096 < s.size := by omega
  have e1 : parN s = 0 := by unfold parN; rw [if_neg hn, h]
  have e2 : parE s = c := by unfold parE; rw [if_neg hn, h]; exact hc
  have e3 : parR s = ([], []) := by unfold parR; rw [if_neg hn, h]; exact if_neg (by rw [hc]; exact h0)
  exact ⟨_, by rw [e1, e2]; rfl, by rw [e3]; exact schv_nil w', hb⟩
theorem ParP.yes {s : ByteArray} {w w' : World} {r : List Ty × List Cl} {q : Nat} {v : Value} (hs : s.size ≤ 4096) (h : readL [] [] s 1 = (some r, q)) (hc : chkS r.1 r.2 = 0) (hv : SchV w' v r.1 r.2) (hb : Below w.heap.size w w') : ParP s w (.returned (.tuple #[v, .int .i64 0, .int .i64 0])) w' := by
  have hn : ¬ 4096 < s.size := by omega
  have e1 : parN s = 0 := by unfold parN; rw [if_neg hn, h]
  have e2 : parE s = 0 := by unfold parE; rw [if_neg hn, h]; exact hc
  have e3 : parR s = r := by unfold parR; rw [if_neg hn, h]; exact if_pos hc
  exact ⟨_, by rw [e1, e2]; rfl, by rw [e3]; exact hv, hb⟩
theorem SB.schv {W : World} {b : Nat} {ts : List Ty} {cvs : List Cv} {vt vc : Value} (h : SB W b ts cvs vt vc) (h1 : SmT ts) (h2 : SmC (ccls cvs)) : SchV W (.agg #[vt, vc]) ts (ccls cvs) := by
  obtain ⟨ao, cap, rfl, a1⟩ := tys_own h.rowT rfl
  obtain ⟨bo, dap, rfl, a2⟩ := cls_own h.rowC rfl h.ok
  exact ⟨ao, _, cap, bo, _, dap, rfl, a1, a2, h1, h2⟩
theorem sb_new (w : World) (o : Obj) : SB ((w.alloc o).alloc (.cells #[.slice none 0 0, .slice none 0 0] 25)) (w.heap.size + 1) [] [] (.slice none 0 0) (.slice none 0 0) :=
  ⟨by have := heap_alloc_new (w.alloc o) (.cells #[.slice none 0 0, .slice none 0 0] 25); simpa using this, World.ownsRow_nil _ _ _ _, World.ownsRow_nil _ _ _ _, .inl rfl, (fun _ h => by cases h), (fun _ h => by cases h)⟩
theorem emp_true {s : ByteArray} (h : s = ⟨#[]⟩) : s.toList.isEmpty = true := by rw [h, Lib.toList_data]; rfl
theorem emp_false {s : ByteArray} (h : s ≠ ⟨#[]⟩) : s.toList.isEmpty = false := by
  rw [Lib.toList_data]
  rcases s with ⟨⟨l⟩⟩
  cases l with
  | nil => exact absurd rfl h
  | cons => rfl
def strN : Value → Nat
  | .string s => s.size
  | _ => 0
set_option maxHeartbeats 8000000 in
theorem parseF_s (s : ByteArray) (w : World) (hs : s.size ≤ 1000000000) (hm : MaxOk w) (hg : 1 < w.heap.size) (ho : SynOk w) :
    Calls Tryz.prog 17 #[.string s] w fun e w' => ParP s w e w' := by
  by_cases hbig : 4096 < s.size
  · have d1 : (s.size : Int) > 4096 := by omega
    go_enter Tryz.func17, Tryz.ntmps17
    go_wp2_with fail
    refine bodyPost_ret (v := .tuple #[.agg #[.slice none 0 0, .slice none 0 0], .int .i64 0, .int .i64 3]) (by simp only [results, Tryz.results17]; go_simp) rfl ?_
    exact ParP.big hbig ((Below.refl _ _).alloc (Nat.le_refl _) _)
  · have d1 : ¬ (s.size : Int) > 4096 := by omega
    have hle : s.size ≤ 4096 := by omega
    have hb0 : Below w.heap.size w ((w.alloc (.cells #[.slice none 0 0, .slice none 0 0] 25)).alloc (.cells #[.slice none 0 0, .slice none 0 0] 25)) := ((Below.refl _ _).alloc (Nat.le_refl _) _).alloc (by simp) _
    have HB0 := Lib.hid hb0
    have HSB := Lib.hid (sb_new w (.cells #[.slice none 0 0, .slice none 0 0] 25))
    have HM := Lib.hid (And.intro hm ho)
    clear hb0 hm ho
    go_enter Tryz.func17, Tryz.ntmps17
    go_wp2_with fail
    go_loopw [0, 6, 7, 8, 9] (fun s0 s6 s7 s8 s9 wr => ∃ (ts : List Ty) (cvs : List Cv) (vt vc : Value) (cur : ByteArray) (n : Nat), s0 = .string cur ∧ s6 = .int .i64 n ∧ ts.length + cvs.length + cur.size ≤ 4096 ∧ n + cur.size ≤ 4097 ∧ Hid (SB wr (w.heap.size + 1) ts cvs vt vc) ∧ Hid (readL [] [] s 1 = readL ts (ccls cvs) cur n) ∧ Hid (SmT ts ∧ SmC (ccls cvs)) ∧ Hid (wr.heap[w.heap.size]? = some (.cells #[.slice none 0 0, .slice none 0 0] 25)) ∧ Hid (Below w.heap.size w wr)) (fun s0 _ _ _ _ _ => strN s0)
    case atStart =>
      refine ⟨[], [], _, _, s, 1, rfl, rfl, by simpa using hle, by omega, HSB, Lib.hid rfl, Lib.hid ⟨(fun _ h => by cases h), (fun _ h => by cases h)⟩, Lib.hid ?_, HB0⟩
      exact (Below.heap_alloc _ _ _ (by simp)).trans (heap_alloc_new w _)
    case round =>
      clear HSB HB0
      obtain ⟨ts, cvs, vt, vc, cur, n, rfl, rfl, hl1, hl2, HS, HR, HSm, HBx, HB⟩ := hrel
      have HM2 := Lib.hid (And.intro (HM.out.1.below HB.out hg) (HM.out.2.below HB.out))
      have hlt := HS.out.lt
      obtain ⟨ao, cap, rfl⟩ := row_slice HS.out.rowT
      obtain ⟨bo, dap, rfl⟩ := row_slice HS.out.rowC
      by_cases hz : cur = ⟨#[]⟩
      · have d2 := emp_true hz
        have HR2 := Lib.hid (show readL [] [] s 1 = (some (ts, ccls cvs), 0) by rw [HR.out, hz, readL_end])
        obtain ⟨q0, q1⟩ : wr.cell? ⟨w.heap.size + 1, 0, none⟩ = some (.slice ao ts.length cap) ∧ wr.cell? ⟨w.heap.size + 1, 1, none⟩ = some (.slice bo cvs.length dap) := ⟨heap_cell HS.out.blk rfl, heap_cell HS.out.blk rfl⟩
        have HCk := Lib.hid (checkF_s _ ts (ccls cvs) wr (HS.out.schv HSm.out.1 HSm.out.2))
        obtain ⟨c, hc⟩ : ∃ c, chkS ts (ccls cvs) = c := ⟨_, rfl⟩
        rw [hc] at HCk
        have HC := Lib.hid hc
        clear hz hc
        go_wp2_with fail
        refine HCk.out.mono ?_
        rintro e w2 ⟨rfl, hb⟩
        have HS2 := Lib.hid (HS.out.below hb)
        have HB2 := Lib.hid (HB.out.trans (hb.mono HB.out.size))
        have hx := (hb.block w.heap.size (by omega)).trans HBx.out
        obtain ⟨q0, q1⟩ : w2.cell? ⟨w.heap.size + 1, 0, none⟩ = some (.slice ao ts.length cap) ∧ w2.cell? ⟨w.heap.size + 1, 1, none⟩ = some (.slice bo cvs.length dap) := ⟨heap_cell HS2.out.blk rfl, heap_cell HS2.out.blk rfl⟩
        obtain ⟨r0, r1⟩ : w2.cell? ⟨w.heap.size, 0, none⟩ = some (.slice none 0 0) ∧ w2.cell? ⟨w.heap.size, 1, none⟩ = some (.slice none 0 0) := ⟨heap_cell hx rfl, heap_cell hx rfl⟩
        have f0 : w2.frozen? ⟨w.heap.size, 0, none⟩ = false := heap_frozen hx
        have f1 : w2.frozen? ⟨w.heap.size, 1, none⟩ = false := heap_frozen hx
        clear hb hx
        by_cases h0 : c = 0
        · subst h0
          go_wp2_with fail
          refine bodyPost_ret (v := .tuple #[.agg #[.slice ao ts.length cap, .slice bo cvs.length dap], .int .i64 0, .int .i64 0]) (by simp only [results, Tryz.results17]; go_simp) rfl ?_
          exact ParP.yes hle HR2.out HC.out (((HS2.out.other ⟨w.heap.size, 0, none⟩ (Nat.lt_succ_self _) _).other ⟨w.heap.size, 1, none⟩ (Nat.lt_succ_self _) _).schv HSm.out.1 HSm.out.2) (below_set1 (below_set1 HB2.out w.heap.size 0 (Nat.le_refl _) _) w.heap.size 1 (Nat.le_refl _) _)
        · go_wp2_with fail
          refine bodyPost_ret (v := .tuple #[.agg #[.slice none 0 0, .slice none 0 0], .int .i64 0, .int .i64 c]) (by simp only [results, Tryz.results17]; go_simp) rfl ?_
          exact ParP.bad hle HR2.out HC.out h0 (below_set1 (below_set1 HB2.out w.heap.size 0 (Nat.le_refl _) _) w.heap.size 1 (Nat.le_refl _) _)
      · have d2 := emp_false hz
        have HC := Lib.hid (cutF_s cur 10 wr (by omega) HM2.out.1)
        obtain ⟨ln, hln⟩ : ∃ x, cutBef cur ⟨#[10]⟩ = x := ⟨_, rfl⟩
        obtain ⟨rs, hrs⟩ : ∃ x, cutAft cur ⟨#[10]⟩ = x := ⟨_, rfl⟩
        obtain ⟨ok, hok⟩ : ∃ x, cutOk cur ⟨#[10]⟩ = x := ⟨_, rfl⟩
        rw [hln, hrs, hok] at HC
        have HZ := Lib.hid hz
        clear hz
        cases ok
        · have HR2 := Lib.hid (HR.out.trans (readL_cut HZ.out hok))
          clear hln hrs hok
          go_wp2_with fail
          refine HC.out.mono ?_
          rintro e w2 ⟨rfl, hb⟩
          have HB2 := Lib.hid (HB.out.trans (hb.mono HB.out.size))
          have hx := (hb.block w.heap.size (by omega)).trans HBx.out
          obtain ⟨r0, r1⟩ : w2.cell? ⟨w.heap.size, 0, none⟩ = some (.slice none 0 0) ∧ w2.cell? ⟨w.heap.size, 1, none⟩ = some (.slice none 0 0) := ⟨heap_cell hx rfl, heap_cell hx rfl⟩
          have f0 : w2.frozen? ⟨w.heap.size, 0, none⟩ = false := heap_frozen hx
          have f1 : w2.frozen? ⟨w.heap.size, 1, none⟩ = false := heap_frozen hx
          clear hb hx
          go_wp2_with fail
          refine bodyPost_ret (v := .tuple #[.agg #[.slice none 0 0, .slice none 0 0], .int .i64 n, .int .i64 4]) (by simp only [results, Tryz.results17]; go_simp) rfl ?_
          exact ParP.no hle HR2.out (below_set1 (below_set1 HB2.out w.heap.size 0 (Nat.le_refl _) _) w.heap.size 1 (Nat.le_refl _) _)
        · have hsz := cut_lt hok
          rw [hln, hrs] at hsz
          obtain ⟨lr, hlr⟩ : ∃ x, lineL ts (ccls cvs) ln = x := ⟨_, rfl⟩
          have HLr := Lib.hid (And.intro hok (And.intro hln (And.intro hrs hlr)))
          clear hok hln hrs hlr
          go_wp2_with fail
          refine HC.out.mono ?_
          rintro e w2 ⟨rfl, hb⟩
          have HS2 := Lib.hid (HS.out.below hb)
          have HB2 := Lib.hid (HB.out.trans (hb.mono HB.out.size))
          have hx := (hb.block w.heap.size (by omega)).trans HBx.out
          have HM3 := Lib.hid (And.intro (HM.out.1.below HB2.out hg) (HM.out.2.below HB2.out))
          have HL := Lib.hid (addLine_s (w.heap.size + 1) ts cvs _ _ ln w2 HS2.out (by omega) HM3.out.1 (Nat.lt_of_lt_of_le hg HB2.out.size) HM3.out.2 (by omega) (by omega))
          have hlt2 := HS2.out.lt
          have HX := Lib.hid hx
          clear hb hx
          go_wp2_with fail
          refine HL.out.mono ?_
          rintro e w3 ⟨ts', cvs', vt', vc', rfl, hr, hS3, hb⟩
          rw [HLr.out.2.2.2] at hr ⊢
          have HB3 := Lib.hid (HB2.out.trans (hb.mono (Nat.le_succ _)))
          have hx := (hb.block w.heap.size (Nat.lt_succ_self _)).trans HX.out
          have HS3 := Lib.hid hS3
          clear hb hS3
          cases lr with
          | none =>
            have HR2 := Lib.hid (HR.out.trans (readL_bad HZ.out (by rw [HLr.out.2.1]; exact HLr.out.2.2.2)))
            obtain ⟨r0, r1⟩ : w3.cell? ⟨w.heap.size, 0, none⟩ = some (.slice none 0 0) ∧ w3.cell? ⟨w.heap.size, 1, none⟩ = some (.slice none 0 0) := ⟨heap_cell hx rfl, heap_cell hx rfl⟩
            have f0 : w3.frozen? ⟨w.heap.size, 0, none⟩ = false := heap_frozen hx
            have f1 : w3.frozen? ⟨w.heap.size, 1, none⟩ = false := heap_frozen hx
            clear hr hx
            go_wp2_with fail
            refine bodyPost_ret (v := .tuple #[.agg #[.slice none 0 0, .slice none 0 0], .int .i64 n, .int .i64 4]) (by simp only [results, Tryz.results17]; go_simp) rfl ?_
            exact ParP.no hle HR2.out (below_set1 (below_set1 HB3.out w.heap.size 0 (Nat.le_refl _) _) w.heap.size 1 (Nat.le_refl _) _)
          | some r =>
            have er := hr r rfl
            subst er
            have HX3 := Lib.hid hx
            have hsm := lineL_sm HLr.out.2.2.2 (by omega) HSm.out.1 HSm.out.2
            have hl3 := hsm.2.2
            simp only [ccls_len] at hl3
            have HSm3 := Lib.hid (And.intro hsm.1 hsm.2.1)
            have HR3 := Lib.hid (HR.out.trans ((readL_step HZ.out HLr.out.1 (by rw [HLr.out.2.1]; exact HLr.out.2.2.2)).trans (by rw [HLr.out.2.2.1])))
            clear hr hx hsm
            go_wp2_with fail
            go_roundw
            case rel => exact ⟨ts', cvs', vt', vc', rs, n + 1, rfl, by go_num, by omega, by omega, HS3, HR3, HSm3, HX3, HB3⟩
            case measure => simp [strN]; omega
end Go.Proofs.YtmmdaegdkikkpaaGreatDoor
end

section
/-
  Contract of the specification's class. Condition: names of at most 1000000000 bytes.
-/
set_option maxRecDepth 100000
namespace Go.Proofs.YtmmdaegdkikkpaaGreatDoor
open Go.RowKit Go.PlainAid
theorem cl_takeAt (l : List Cl) {k j : Nat} (h : j < k) : clAt (l.take k) j = clAt l j := by
  unfold clAt; rw [List.getD_eq_getElem?_getD, List.getElem?_take_of_lt h, List.getD_eq_getElem?_getD]
theorem ty_takeAt (l : List Ty) {k j : Nat} (h : j < k) : tyAt (l.take k) j = tyAt l j := by
  unfold tyAt; rw [List.getD_eq_getElem?_getD, List.getElem?_take_of_lt h, List.getD_eq_getElem?_getD]
theorem ClsAt.cut {w : World} {ao : Option Addr} {n cap : Nat} {l : List Cl} (h : ClsAt w ao n cap l) {k : Nat} (hk : k ≤ n) : ClsAt w ao k cap (l.take k) := by
  obtain ⟨h1, h2, h3, h4⟩ := h
  refine ⟨by rw [List.length_take]; omega, by omega, h3, fun hn => ?_⟩
  obtain ⟨b, off, e, hb, hs⟩ := h4 (by omega)
  exact ⟨b, off, e, hb, fun j hj => by rw [cl_takeAt l hj]; exact hs j (by omega)⟩
theorem TysAt.cut {w : World} {ao : Option Addr} {n cap : Nat} {l : List Ty} (h : TysAt w ao n cap l) {k : Nat} (hk : k ≤ n) : TysAt w ao k cap (l.take k) := by
  obtain ⟨h1, h2, h3, h4⟩ := h
  refine ⟨by rw [List.length_take]; omega, by omega, h3, fun hn => ?_⟩
  obtain ⟨b, off, e, hb, hs⟩ := h4 (by omega)
  exact ⟨b, off, e, hb, fun j hj => by rw [ty_takeAt l hj]; exact hs j (by omega)⟩
theorem TyIx.pos {l : List Ty} {n : ByteArray} {r : Int} (h : TyIx l n r) : (0 ≤ r ∧ (tyOf l n).isSome = true) ∨ (r < 0 ∧ (tyOf l n).isSome = false) := by
  rcases h with ⟨k, rfl, _, e⟩ | ⟨rfl, e⟩
  · exact .inl ⟨by omega, by rw [e]; rfl⟩
  · exact .inr ⟨by omega, by rw [e]; rfl⟩
theorem ClIx.pos {l : List Cl} {n : ByteArray} {r : Int} (h : ClIx l n r) : (0 ≤ r ∧ (clOf l n).isSome = true) ∨ (r < 0 ∧ (clOf l n).isSome = false) := by
  rcases h with ⟨k, rfl, _, e⟩ | ⟨rfl, e⟩
  · exact .inl ⟨by omega, by rw [e]; rfl⟩
  · exact .inr ⟨by omega, by rw [e]; rfl⟩
/-- the boxes of class: the schema, the class -/
structure KB (w W : World) (ao : Option Addr) (n cap : Nat) (bo : Option Addr) (m dap : Nat) (d : Cv) : Prop where
  box : W.heap[w.heap.size]? = some (.cells #[.slice ao n cap, .slice bo m dap] 25)
  cls : W.heap[w.heap.size + 1]? = some (.cells #[.string d.cl.name, .string d.cl.super, d.hm, d.hy] 64)
  low : Below w.heap.size w W
  big : w.heap.size + 1 < W.heap.size
theorem KB.step {w W V : World} {ao : Option Addr} {n cap : Nat} {bo : Option Addr} {m dap : Nat} {d : Cv} (h : KB w W ao n cap bo m dap d) (hb : Below W.heap.size W V) : KB w V ao n cap bo m dap d :=
  ⟨(hb.block _ (by have := h.big; omega)).trans h.box, (hb.block _ h.big).trans h.cls, h.low.trans (hb.mono (by have := h.big; omega)), Nat.lt_of_lt_of_le h.big hb.size⟩
theorem KB.cells {w W : World} {ao : Option Addr} {n cap : Nat} {bo : Option Addr} {m dap : Nat} {d : Cv} (h : KB w W ao n cap bo m dap d) :
    W.cell? ⟨w.heap.size, 0, none⟩ = some (.slice ao n cap) ∧ W.cell? ⟨w.heap.size, 1, none⟩ = some (.slice bo m dap) ∧ W.cell? ⟨w.heap.size + 1, 0, none⟩ = some (.string d.cl.name) ∧ W.cell? ⟨w.heap.size + 1, 1, none⟩ = some (.string d.cl.super) ∧ W.cell? ⟨w.heap.size + 1, 2, none⟩ = some d.hm ∧ W.cell? ⟨w.heap.size + 1, 3, none⟩ = some d.hy :=
  ⟨heap_cell h.box rfl, heap_cell h.box rfl, heap_cell h.cls rfl, heap_cell h.cls rfl, heap_cell h.cls rfl, heap_cell h.cls rfl⟩
theorem kb_new (w : World) (ao : Option Addr) (n cap : Nat) (bo : Option Addr) (m dap : Nat) (d : Cv) : KB w ((w.alloc (.cells #[.slice ao n cap, .slice bo m dap] 25)).alloc (.cells #[.string d.cl.name, .string d.cl.super, d.hm, d.hy] 64)) ao n cap bo m dap d :=
  ⟨(Below.heap_alloc _ _ _ (by simp)).trans (heap_alloc_new w _), by have := heap_alloc_new (w.alloc (.cells #[.slice ao n cap, .slice bo m dap] 25)) (.cells #[.string d.cl.name, .string d.cl.super, d.hm, d.hy] 64); simpa using this, ((Below.refl _ _).alloc (Nat.le_refl _) _).alloc (by simp) _, by simp⟩
theorem kbS {w W : World} {ao : Option Addr} {n cap : Nat} {bo : Option Addr} {m dap : Nat} {d : Cv} (h : KB w W ao n cap bo m dap d) : W.cell? ⟨w.heap.size, 1, none⟩ = some (.slice bo m dap) ∧ W.cell? ⟨w.heap.size + 1, 1, none⟩ = some (.string d.cl.super) ∧ Hid (KB w W ao n cap bo m dap d) :=
  ⟨h.cells.2.1, h.cells.2.2.2.1, Lib.hid h⟩
set_option maxHeartbeats 8000000 in
theorem classR_s (v : Value) (ts : List Ty) (cs : List Cl) (k : Nat) (w : World) (h : SchV w v ts cs) (hk : k < cs.length) :
    Calls Tryz.prog 120 #[v, .int .i64 k] w fun e w' => e = .returned (.int .i64 (errC ts cs k)) ∧ Below w.heap.size w w' := by
  obtain ⟨ao, n, cap, bo, m, dap, rfl, hT, hC, hsT, hsC⟩ := h
  obtain ⟨hm1, hm2, hm3, hm4⟩ := id hC
  have htl := hT.1
  have htc := hT.2.1
  have htx := hT.2.2.1
  unfold maxLen at hm3 htx
  obtain ⟨b, off, rfl, hbl, hat⟩ := hm4 (by omega)
  obtain ⟨d, hd, hdk, y0, y1, y2, y3⟩ := cl_val (hat k (by omega))
  obtain ⟨hn0, hn1, hn2, hn3⟩ := hsC _ (cl_mem cs k hk)
  have hal : Below w.heap.size w (w.alloc (.cells #[.slice ao n cap, .slice (some ⟨b, off, none⟩) m dap] 25)) := (Below.refl _ _).alloc (Nat.le_refl _) _
  have y0 := cell_later hal y0
  have y1 := cell_later hal y1
  have y2 := cell_later hal y2
  have y3 := cell_later hal y3
  have HK0 := Lib.hid (kb_new w ao n cap (some ⟨b, off, none⟩) m dap d)
  have HIn := Lib.hid (And.intro hT (And.intro hC (And.intro hsT hsC)))
  have HDk := Lib.hid hdk
  have hE : errC ts cs k = errCl ts (cs.take k) d.cl := by rw [errC_take, hd]
  rw [hE]
  rw [← hd] at hn0 hn1 hn2 hn3 y0 y1
  obtain ⟨⟨cn, sup, mu, ma⟩, dm, dy⟩ := d
  simp only at hn0 hn1 hn2 hn3 y0 y1 y2 y3
  obtain ⟨⟨a1, p1, q1, rfl, hS1⟩, a2, p2, q2, rfl, hS2⟩ := hdk
  have HS := Lib.hid (And.intro hS1 hS2)
  obtain ⟨nb, hnb⟩ : ∃ x, nameB cn = x := ⟨_, rfl⟩
  have HNb := Lib.hid hnb
  have k0 : (0 : Int) ≤ (k : Int) := by omega
  have k1 : (k : Int) < (m : Int) := by omega
  have hal2 : w.heap.size ≤ w.heap.size + 1 := Nat.le_succ _
  clear hT hC hm4 hat hsT hsC hd hE hS1 hS2 hnb hal
  go_enter Tryz.func120, Tryz.ntmps120
  go_wp2_with fail
  refine (rName_s cn _ hn0).mono ?_
  rintro e w1 ⟨rfl, rfl⟩
  rw [HNb.out]
  cases nb
  · go_wp2_with fail
    go_ret
    exact ⟨by unfold errCl; rw [HNb.out]; rfl, HK0.out.low⟩
  · go_wp2_with fail
    have HC1 := Lib.hid (fun W (hb : Below w.heap.size w W) => classAt_s (some ⟨b, off, none⟩) k dap (cs.take k) cn W ((HIn.out.2.1.below hb).cut (by omega)) (fun t ht => (HIn.out.2.2.2 t (List.mem_of_mem_take ht)).1) hn0)
    have HC2 := Lib.hid (fun W (hb : Below w.heap.size w W) => classAt_s (some ⟨b, off, none⟩) k dap (cs.take k) sup W ((HIn.out.2.1.below hb).cut (by omega)) (fun t ht => (HIn.out.2.2.2 t (List.mem_of_mem_take ht)).1) hn1)
    generalize (w.alloc (.cells #[.slice ao n cap, .slice (some ⟨b, off, none⟩) m dap] 25)).alloc (.cells #[.string cn, .string sup, .slice a1 p1 q1, .slice a2 p2 q2] 64) = W1 at HK0 ⊢
    obtain ⟨c0, c1, x0, x1, x2, x3⟩ := HK0.out.cells
    simp only at x0 x1 x2 x3
    have k2 : (k : Int) ≤ (dap : Int) := by omega
    refine wp_region_still_tail 6 (by kernel_rfl) (by kernel_rfl) ?_
    simp only [List.take_succ_cons, List.take_zero, List.drop_succ_cons, List.drop_zero]
    change wpStill _ _ (World.drew _) _ _ _
    still_step
    still_step
    still_step
    still_step
    still_step
    still_step
    refine wpStill_nil ?_
    change wpList _ _ _ _ _ (World.drew _)
    have HK1 := Lib.hid (HK0.out.step (Below.refl _ _).drew)
    clear c0 c1 x0 x1 x2 x3
    generalize World.drew _ = W2 at HK1 ⊢
    obtain ⟨c0, c1, x0, x1, x2, x3⟩ := HK1.out.cells
    simp only at x0 x1 x2 x3
    go_wp2_with fail
    refine (HC1.out _ HK1.out.low).mono ?_
    rintro e W3 ⟨r, rfl, hix, hb⟩
    have HK2 := Lib.hid (HK1.out.step hb)
    have HIx := Lib.hid hix.pos
    clear c0 c1 x0 x1 x2 x3 hb hix HC1
    obtain ⟨c0, c1, x0, x1, x2, x3⟩ := HK2.out.cells
    simp only at x0 x1 x2 x3
    by_cases hr : 0 ≤ r
    · have hq : (clOf (cs.take k) cn).isSome = true := by rcases HIx.out with h | h; exact h.2; omega
      have HE := Lib.hid (show errCl ts (cs.take k) ⟨cn, sup, mu, ma⟩ = 7 by unfold errCl; simp only; rw [if_neg (by rw [HNb.out]; decide), if_pos hq])
      clear hq
      go_wp2_with fail
      go_ret
      exact ⟨by rw [HE.out]; rfl, HK2.out.low⟩
    · have hq : (clOf (cs.take k) cn).isSome = false := by rcases HIx.out with h | h; omega; exact h.2
      have HE := Lib.hid (show errCl ts (cs.take k) ⟨cn, sup, mu, ma⟩ = if sup.size ≠ 0 ∧ (clOf (cs.take k) sup).isSome = false then 6 else if 64 < mu.length ∨ 64 < ma.length then 3 else if typedB ts mu = false ∨ typedB ts ma = false then 6 else 0 by unfold errCl; simp only; rw [if_neg (by rw [HNb.out]; decide), if_neg (by rw [hq]; decide)])
      clear hq
      go_wp2_with fail
      have S0 := kbS (HK2.out.step (Below.refl _ _).drew)
      clear c0 c1 x0 x1 x2 x3
      by_cases hz : sup.size = 0
      · have z0 : sup.toList.isEmpty = true := by rw [str_none]; exact decide_eq_true hz
        refine wp_region_held_drew (S := fun W => W.cell? ⟨w.heap.size, 1, none⟩ = some (.slice (some ⟨b, off, none⟩) m dap) ∧ W.cell? ⟨w.heap.size + 1, 1, none⟩ = some (.string sup) ∧ Hid (KB w W ao n cap (some ⟨b, off, none⟩) m dap ⟨⟨cn, sup, mu, ma⟩, .slice a1 p1 q1, .slice a2 p2 q2⟩)) (by kernel_rfl) (S0) (fun hS => ?_)
        refine wpAnyH_take (i := 0) (oi := { dst := some 25, op := _, type := _, pos := _, after := _, guard := _ }) (v := ?_) rfl (by kernel_rfl) (by kernel_rfl) (by kernel_rfl) (fun _ _ _ h => h) (Or.inl ⟨by rfl, ?_⟩) (by assumption) ?_
        rotate_left
        · intro w hSw
          try dsimp only at hSw
          go_simp
          try with_reducible rfl
        try simp only [Act.put, List.setIfInBounds_toArray, List.set_cons_zero, List.set_cons_succ]
        refine wpAnyH_take (i := 1) (oi := { dst := some 26, op := _, type := _, pos := _, after := _, guard := _ }) (v := ?_) rfl (by kernel_rfl) (by kernel_rfl) (by kernel_rfl) (fun _ _ _ h => h) (Or.inl ⟨by rfl, ?_⟩) (by assumption) ?_
        rotate_left
        · intro w hSw
          try dsimp only at hSw
          go_simp
          try with_reducible rfl
        try simp only [Act.put, List.setIfInBounds_toArray, List.set_cons_zero, List.set_cons_succ]
        refine wpAnyH_take (i := 2) (oi := { dst := some 27, op := _, type := _, pos := _, after := _, guard := _ }) (v := ?_) rfl (by kernel_rfl) (by kernel_rfl) (by kernel_rfl) (fun _ _ _ h => h) (Or.inl ⟨by rfl, ?_⟩) (by assumption) ?_
        rotate_left
        · intro w hSw
          try dsimp only at hSw
          go_simp
          try with_reducible rfl
        try simp only [Act.put, List.setIfInBounds_toArray, List.set_cons_zero, List.set_cons_succ]
        refine wpAnyH_take (i := 3) (oi := { dst := some 28, op := _, type := _, pos := _, after := _, guard := _ }) (v := ?_) rfl (by kernel_rfl) (by kernel_rfl) (by kernel_rfl) (fun _ _ _ h => h) (Or.inl ⟨by rfl, ?_⟩) (by assumption) ?_
        rotate_left
        · intro w hSw
          try dsimp only at hSw
          go_simp
          try with_reducible rfl
        try simp only [Act.put, List.setIfInBounds_toArray, List.set_cons_zero, List.set_cons_succ]
        refine wpAnyH_take (i := 4) (oi := { dst := some 29, op := _, type := _, pos := _, after := _, guard := _ }) (v := undef) rfl (by kernel_rfl) (by kernel_rfl) (by kernel_rfl) (fun _ _ _ h => h) (Or.inr ⟨by rfl, rfl⟩) (by assumption) ?_
        try simp only [Act.put, List.setIfInBounds_toArray, List.set_cons_zero, List.set_cons_succ]
        refine wpAnyH_take (i := 5) (oi := { dst := some 30, op := _, type := _, pos := _, after := _, guard := _ }) (v := undef) rfl (by kernel_rfl) (by kernel_rfl) (by kernel_rfl) (fun _ _ _ h => h) (Or.inr ⟨by rfl, rfl⟩) (by assumption) ?_
        try simp only [Act.put, List.setIfInBounds_toArray, List.set_cons_zero, List.set_cons_succ]
        refine wpAnyH_take (i := 6) (oi := { dst := some 31, op := _, type := _, pos := _, after := _, guard := _ }) (v := undef) rfl (by kernel_rfl) (by kernel_rfl) (by kernel_rfl) (fun _ _ _ h => h) (Or.inr ⟨by rfl, rfl⟩) (by assumption) ?_
        try simp only [Act.put, List.setIfInBounds_toArray, List.set_cons_zero, List.set_cons_succ]
        refine wpAnyH_take (i := 7) (oi := { dst := some 32, op := _, type := _, pos := _, after := _, guard := _ }) (v := undef) rfl (by kernel_rfl) (by kernel_rfl) (by kernel_rfl) (fun _ _ _ h => h) (Or.inr ⟨by rfl, rfl⟩) (by assumption) ?_
        try simp only [Act.put, List.setIfInBounds_toArray, List.set_cons_zero, List.set_cons_succ]
        refine wpAnyH_take (i := 8) (oi := { dst := some 33, op := _, type := _, pos := _, after := _, guard := _ }) (v := undef) rfl (by kernel_rfl) (by kernel_rfl) (by kernel_rfl) (fun _ _ _ h => h) (Or.inr ⟨by rfl, rfl⟩) (by assumption) ?_
        try simp only [Act.put, List.setIfInBounds_toArray, List.set_cons_zero, List.set_cons_succ]
        refine wpAnyH_take (i := 9) (oi := { dst := some 34, op := _, type := _, pos := _, after := _, guard := _ }) (v := undef) rfl (by kernel_rfl) (by kernel_rfl) (by kernel_rfl) (fun _ _ _ h => h) (Or.inr ⟨by rfl, rfl⟩) (by assumption) ?_
        try simp only [Act.put, List.setIfInBounds_toArray, List.set_cons_zero, List.set_cons_succ]
        refine wpAnyH_take (i := 10) (oi := { dst := some 35, op := _, type := _, pos := _, after := _, guard := _ }) (v := undef) rfl (by kernel_rfl) (by kernel_rfl) (by kernel_rfl) (fun _ _ _ h => h) (Or.inr ⟨by rfl, rfl⟩) (by assumption) ?_
        try simp only [Act.put, List.setIfInBounds_toArray, List.set_cons_zero, List.set_cons_succ]
        refine wpAnyH_take (i := 11) (oi := { dst := some 36, op := _, type := _, pos := _, after := _, guard := _ }) (v := undef) rfl (by kernel_rfl) (by kernel_rfl) (by kernel_rfl) (fun _ _ _ h => h) (Or.inr ⟨by rfl, rfl⟩) (by assumption) ?_
        try simp only [Act.put, List.setIfInBounds_toArray, List.set_cons_zero, List.set_cons_succ]
        refine wpAnyH_take (i := 12) (oi := { dst := some 37, op := _, type := _, pos := _, after := _, guard := _ }) (v := ?_) rfl (by kernel_rfl) (by kernel_rfl) (by kernel_rfl) (fun _ _ _ h => h) (Or.inl ⟨by rfl, ?_⟩) (by assumption) ?_
        rotate_left
        · intro w hSw
          try dsimp only at hSw
          go_simp
          try with_reducible rfl
        try simp only [Act.put, List.setIfInBounds_toArray, List.set_cons_zero, List.set_cons_succ]
        refine wpAnyH_done (by kernel_rfl) ?_ _
        have HK3 := S0.2.2
        clear S0
        generalize World.drew W3 = W4 at HK3 ⊢
        obtain ⟨c0, c1, x0, x1, x2, x3⟩ := HK3.out.cells
        simp only at x0 x1 x2 x3
        have hl1 := HS.out.1.1
        have hl2 := HS.out.2.1
        by_cases hp : 64 < p1
        · have d1 : (p1 : Int) > 64 := by omega
          go_wp2_with fail
          go_ret
          exact ⟨by rw [HE.out, if_neg (fun h => h.1 hz), if_pos (.inl (by omega))]; rfl, HK3.out.low⟩
        · have d1 : ¬ (p1 : Int) > 64 := by omega
          by_cases hp2 : 64 < p2
          · have d2 : (p2 : Int) > 64 := by omega
            go_wp2_with fail
            go_ret
            exact ⟨by rw [HE.out, if_neg (fun h => h.1 hz), if_pos (.inr (by omega))]; rfl, HK3.out.low⟩
          · have d2 : ¬ (p2 : Int) > 64 := by omega
            have HE2 := Lib.hid (show errCl ts (cs.take k) ⟨cn, sup, mu, ma⟩ = if typedB ts mu = false ∨ typedB ts ma = false then 6 else 0 by rw [HE.out, if_neg (fun h => h.1 hz), if_neg (by omega)])
            have HS1 := Lib.hid HS.out.1
            have HS2 := Lib.hid HS.out.2
            clear HE d1
            go_wp2_with fail
            go_loopw [6] (fun i wr => ∃ j : Nat, j ≤ p1 ∧ i = .int .i64 j ∧ Hid (typedB ts (mu.take j) = true) ∧ Hid (KB w wr ao n cap (some ⟨b, off, none⟩) m dap ⟨⟨cn, sup, mu, ma⟩, .slice a1 p1 q1, .slice a2 p2 q2⟩)) (fun i _ => p1 - (intOf i).toNat)
            case atStart => exact ⟨0, Nat.zero_le _, rfl, Lib.hid rfl, HK3⟩
            case round =>
              clear c0 c1 x0 x1 x2 x3
              obtain ⟨j, hj, rfl, HA, HKj⟩ := hrel
              obtain ⟨c0, c1, x0, x1, x2, x3⟩ := HKj.out.cells
              simp only at x0 x1 x2 x3
              by_cases hlt : j < p1
              · obtain ⟨g, o, rfl, hgl, hcs⟩ := (HS1.out.below HKj.out.low).2.2.2 (by omega)
                have hcell := hcs j (by rw [HS1.out.1]; exact hlt)
                obtain ⟨x, hx⟩ : ∃ x, partAt mu j = x := ⟨_, rfl⟩
                have hxs : x.size ≤ 1000000000 := by rw [← hx]; exact hn2 _ (part_mem mu j (by rw [HS1.out.1]; exact hlt))
                rw [hx] at hcell
                have HX := Lib.hid hx
                have e1 : (0 : Int) ≤ (j : Int) := by omega
                have e2 : (j : Int) < (p1 : Int) := by omega
                clear hcs hx
                go_wp2_with fail
                refine wp_region_still_tail 7 (by kernel_rfl) (by kernel_rfl) ?_
                simp only [List.take_succ_cons, List.take_zero, List.drop_succ_cons, List.drop_zero]
                change wpStill _ _ (World.drew _) _ _ _
                still_step
                still_step
                still_step
                still_step
                still_step
                still_step
                still_step
                refine wpStill_nil ?_
                change wpList _ _ _ _ _ (World.drew _)
                have HKd := Lib.hid (HKj.out.step (Below.refl _ _).drew)
                clear c0 c1 x0 x1 x2 x3 hcell
                generalize World.drew _ = Wd at HKd ⊢
                obtain ⟨c0, c1, x0, x1, x2, x3⟩ := HKd.out.cells
                simp only at x0 x1 x2 x3
                have HCt := Lib.hid (typeAt_s ao n cap ts x Wd (HIn.out.1.below HKd.out.low) HIn.out.2.2.1 hxs)
                go_wp2_with fail
                refine HCt.out.mono ?_
                rintro e We ⟨r', rfl, hix, hb⟩
                have HKe := Lib.hid (HKd.out.step hb)
                have HIx' := Lib.hid hix.pos
                clear c0 c1 x0 x1 x2 x3 hb hix HCt
                obtain ⟨c0, c1, x0, x1, x2, x3⟩ := HKe.out.cells
                simp only at x0 x1 x2 x3
                by_cases hr' : r' < 0
                · have hq : (tyOf ts x).isSome = false := by rcases HIx'.out with h | h; omega; exact h.2
                  have HF := Lib.hid (show typedB ts mu = false from all_false (by rw [HS1.out.1]; exact hlt) (by rw [HX.out]; exact hq))
                  clear hq
                  go_wp2_with fail
                  go_ret
                  exact ⟨by rw [HE2.out, if_pos (.inl HF.out)]; rfl, HKe.out.low⟩
                · have hq : (tyOf ts x).isSome = true := by rcases HIx'.out with h | h; exact h.2; omega
                  have HA2 := Lib.hid (show typedB ts (mu.take (j + 1)) = true from all_take HA.out (by rw [HS1.out.1]; exact hlt) (by rw [HX.out]; exact hq))
                  clear hq
                  go_wp2_with fail
                  go_roundw
                  case rel => exact ⟨j + 1, by omega, by go_num, HA2, HKe⟩
                  case measure => simp [intOf]; omega
              · obtain rfl : p1 = j := by omega
                have e3 : ¬ (p1 : Int) < (p1 : Int) := by omega
                have HAll := Lib.hid (show typedB ts mu = true by have := HA.out; rwa [List.take_of_length_le (by have := HS1.out.1; omega)] at this)
                go_wp2_with fail
                have HM := Lib.hid HAll.out
                clear HAll HA
                go_loopw [7] (fun i wr => ∃ j : Nat, j ≤ p2 ∧ i = .int .i64 j ∧ Hid (typedB ts (ma.take j) = true) ∧ Hid (KB w wr ao n cap (some ⟨b, off, none⟩) m dap ⟨⟨cn, sup, mu, ma⟩, .slice a1 p1 q1, .slice a2 p2 q2⟩)) (fun i _ => p2 - (intOf i).toNat)
                case atStart => exact ⟨0, Nat.zero_le _, rfl, Lib.hid rfl, HKj⟩
                case round =>
                  clear c0 c1 x0 x1 x2 x3
                  obtain ⟨j, hj, rfl, HA, HKj⟩ := hrel
                  obtain ⟨c0, c1, x0, x1, x2, x3⟩ := HKj.out.cells
                  simp only at x0 x1 x2 x3
                  by_cases hlt : j < p2
                  · obtain ⟨g, o, rfl, hgl, hcs⟩ := (HS2.out.below HKj.out.low).2.2.2 (by omega)
                    have hcell := hcs j (by rw [HS2.out.1]; exact hlt)
                    obtain ⟨x, hx⟩ : ∃ x, partAt ma j = x := ⟨_, rfl⟩
                    have hxs : x.size ≤ 1000000000 := by rw [← hx]; exact hn3 _ (part_mem ma j (by rw [HS2.out.1]; exact hlt))
                    rw [hx] at hcell
                    have HX := Lib.hid hx
                    have e1 : (0 : Int) ≤ (j : Int) := by omega
                    have e2 : (j : Int) < (p2 : Int) := by omega
                    clear hcs hx
                    go_wp2_with fail
                    refine wp_region_still_tail 7 (by kernel_rfl) (by kernel_rfl) ?_
                    simp only [List.take_succ_cons, List.take_zero, List.drop_succ_cons, List.drop_zero]
                    change wpStill _ _ (World.drew _) _ _ _
                    still_step
                    still_step
                    still_step
                    still_step
                    still_step
                    still_step
                    still_step
                    refine wpStill_nil ?_
                    change wpList _ _ _ _ _ (World.drew _)
                    have HKd := Lib.hid (HKj.out.step (Below.refl _ _).drew)
                    clear c0 c1 x0 x1 x2 x3 hcell
                    generalize World.drew _ = Wd at HKd ⊢
                    obtain ⟨c0, c1, x0, x1, x2, x3⟩ := HKd.out.cells
                    simp only at x0 x1 x2 x3
                    have HCt := Lib.hid (typeAt_s ao n cap ts x Wd (HIn.out.1.below HKd.out.low) HIn.out.2.2.1 hxs)
                    go_wp2_with fail
                    refine HCt.out.mono ?_
                    rintro e We ⟨r', rfl, hix, hb⟩
                    have HKe := Lib.hid (HKd.out.step hb)
                    have HIx' := Lib.hid hix.pos
                    clear c0 c1 x0 x1 x2 x3 hb hix HCt
                    obtain ⟨c0, c1, x0, x1, x2, x3⟩ := HKe.out.cells
                    simp only at x0 x1 x2 x3
                    by_cases hr' : r' < 0
                    · have hq : (tyOf ts x).isSome = false := by rcases HIx'.out with h | h; omega; exact h.2
                      have HF := Lib.hid (show typedB ts ma = false from all_false (by rw [HS2.out.1]; exact hlt) (by rw [HX.out]; exact hq))
                      clear hq
                      go_wp2_with fail
                      go_ret
                      exact ⟨by rw [HE2.out, if_pos (.inr HF.out)]; rfl, HKe.out.low⟩
                    · have hq : (tyOf ts x).isSome = true := by rcases HIx'.out with h | h; exact h.2; omega
                      have HA2 := Lib.hid (show typedB ts (ma.take (j + 1)) = true from all_take HA.out (by rw [HS2.out.1]; exact hlt) (by rw [HX.out]; exact hq))
                      clear hq
                      go_wp2_with fail
                      go_roundw
                      case rel => exact ⟨j + 1, by omega, by go_num, HA2, HKe⟩
                      case measure => simp [intOf]; omega
                  · obtain rfl : p2 = j := by omega
                    have e3 : ¬ (p2 : Int) < (p2 : Int) := by omega
                    have HAll := Lib.hid (show typedB ts ma = true by have := HA.out; rwa [List.take_of_length_le (by have := HS2.out.1; omega)] at this)
                    go_wp2_with fail
                    go_ret
                    exact ⟨by rw [HE2.out, if_neg (by rw [HM.out, HAll.out]; simp)]; rfl, HKj.out.low⟩
      · have z0 : sup.toList.isEmpty = false := by rw [str_none]; exact decide_eq_false hz
        have HKd := S0.2.2
        refine wp_region_held_drew (S := fun W => W.cell? ⟨w.heap.size, 1, none⟩ = some (.slice (some ⟨b, off, none⟩) m dap) ∧ W.cell? ⟨w.heap.size + 1, 1, none⟩ = some (.string sup) ∧ Hid (KB w W ao n cap (some ⟨b, off, none⟩) m dap ⟨⟨cn, sup, mu, ma⟩, .slice a1 p1 q1, .slice a2 p2 q2⟩)) (by kernel_rfl) (S0) (fun hS => ?_)
        refine wpAnyH_take (i := 0) (oi := { dst := some 25, op := _, type := _, pos := _, after := _, guard := _ }) (v := ?_) rfl (by kernel_rfl) (by kernel_rfl) (by kernel_rfl) (fun _ _ _ h => h) (Or.inl ⟨by rfl, ?_⟩) (by assumption) ?_
        rotate_left
        · intro w hSw
          try dsimp only at hSw
          go_simp
          try with_reducible rfl
        try simp only [Act.put, List.setIfInBounds_toArray, List.set_cons_zero, List.set_cons_succ]
        refine wpAnyH_take (i := 1) (oi := { dst := some 26, op := _, type := _, pos := _, after := _, guard := _ }) (v := ?_) rfl (by kernel_rfl) (by kernel_rfl) (by kernel_rfl) (fun _ _ _ h => h) (Or.inl ⟨by rfl, ?_⟩) (by assumption) ?_
        rotate_left
        · intro w hSw
          try dsimp only at hSw
          go_simp
          try with_reducible rfl
        try simp only [Act.put, List.setIfInBounds_toArray, List.set_cons_zero, List.set_cons_succ]
        refine wpAnyH_take (i := 2) (oi := { dst := some 27, op := _, type := _, pos := _, after := _, guard := _ }) (v := ?_) rfl (by kernel_rfl) (by kernel_rfl) (by kernel_rfl) (fun _ _ _ h => h) (Or.inl ⟨by rfl, ?_⟩) (by assumption) ?_
        rotate_left
        · intro w hSw
          try dsimp only at hSw
          go_simp
          try with_reducible rfl
        try simp only [Act.put, List.setIfInBounds_toArray, List.set_cons_zero, List.set_cons_succ]
        refine wpAnyH_take (i := 3) (oi := { dst := some 28, op := _, type := _, pos := _, after := _, guard := _ }) (v := ?_) rfl (by kernel_rfl) (by kernel_rfl) (by kernel_rfl) (fun _ _ _ h => h) (Or.inl ⟨by rfl, ?_⟩) (by assumption) ?_
        rotate_left
        · intro w hSw
          try dsimp only at hSw
          go_simp
          try with_reducible rfl
        try simp only [Act.put, List.setIfInBounds_toArray, List.set_cons_zero, List.set_cons_succ]
        refine wpAnyH_take (i := 4) (oi := { dst := some 29, op := _, type := _, pos := _, after := _, guard := _ }) (v := ?_) rfl (by kernel_rfl) (by kernel_rfl) (by kernel_rfl) (fun _ _ _ h => h) (Or.inl ⟨by rfl, ?_⟩) (by assumption) ?_
        rotate_left
        · intro w hSw
          try dsimp only at hSw
          go_simp
          try with_reducible rfl
        try simp only [Act.put, List.setIfInBounds_toArray, List.set_cons_zero, List.set_cons_succ]
        refine wpAnyH_take (i := 5) (oi := { dst := some 30, op := _, type := _, pos := _, after := _, guard := _ }) (v := ?_) rfl (by kernel_rfl) (by kernel_rfl) (by kernel_rfl) (fun _ _ _ h => h) (Or.inl ⟨by rfl, ?_⟩) (by assumption) ?_
        rotate_left
        · intro w hSw
          try dsimp only at hSw
          go_simp
          try with_reducible rfl
        try simp only [Act.put, List.setIfInBounds_toArray, List.set_cons_zero, List.set_cons_succ]
        refine wpAnyH_take (i := 6) (oi := { dst := some 31, op := _, type := _, pos := _, after := _, guard := _ }) (v := ?_) rfl (by kernel_rfl) (by kernel_rfl) (by kernel_rfl) (fun _ _ _ h => h) (Or.inl ⟨by rfl, ?_⟩) (by assumption) ?_
        rotate_left
        · intro w hSw
          try dsimp only at hSw
          go_simp
          try with_reducible rfl
        try simp only [Act.put, List.setIfInBounds_toArray, List.set_cons_zero, List.set_cons_succ]
        refine wpAnyH_take (i := 7) (oi := { dst := some 32, op := _, type := _, pos := _, after := _, guard := _ }) (v := ?_) rfl (by kernel_rfl) (by kernel_rfl) (by kernel_rfl) (fun _ _ _ h => h) (Or.inl ⟨by rfl, ?_⟩) (by assumption) ?_
        rotate_left
        · intro w hSw
          try dsimp only at hSw
          go_simp
          try with_reducible rfl
        try simp only [Act.put, List.setIfInBounds_toArray, List.set_cons_zero, List.set_cons_succ]
        refine wpAnyH_take (i := 8) (oi := { dst := some 33, op := _, type := _, pos := _, after := _, guard := _ }) (v := ?_) rfl (by kernel_rfl) (by kernel_rfl) (by kernel_rfl) (fun _ _ _ h => h) (Or.inl ⟨by rfl, ?_⟩) (by assumption) ?_
        rotate_left
        · intro w hSw
          try dsimp only at hSw
          go_simp
          try with_reducible rfl
        try simp only [Act.put, List.setIfInBounds_toArray, List.set_cons_zero, List.set_cons_succ]
        refine wpAnyH_take (i := 9) (oi := { dst := some 34, op := _, type := _, pos := _, after := _, guard := _ }) (v := ?_) rfl (by kernel_rfl) (by kernel_rfl) (by kernel_rfl) (fun _ _ _ h => h) (Or.inl ⟨by rfl, ?_⟩) (by assumption) ?_
        rotate_left
        · intro w hSw
          try dsimp only at hSw
          go_simp
          try with_reducible rfl
        try simp only [Act.put, List.setIfInBounds_toArray, List.set_cons_zero, List.set_cons_succ]
        refine wpAnyH_ready (rs := [10]) (by kernel_rfl) (by simp) ?_
        refine AllReadyH.cons rfl (fun K hK => ?_) AllReadyH.nil
        go_simp
        refine (HC2.out _ HKd.out.low).mono ?_
        rintro e W4 ⟨r2, rfl, hix, hb⟩
        go_wp2_with fail
        refine hK.out _ _ ?_ (fun hHeld => ?_)
        · exact kbS (HKd.out.step hb)
        clear hK K
        try simp only [Act.put, List.setIfInBounds_toArray, List.set_cons_zero, List.set_cons_succ]
        refine wpAnyH_take (i := 11) (oi := { dst := some 36, op := _, type := _, pos := _, after := _, guard := _ }) (v := ?_) rfl (by kernel_rfl) (by kernel_rfl) (by kernel_rfl) (fun _ _ _ h => h) (Or.inl ⟨by rfl, ?_⟩) (by assumption) ?_
        rotate_left
        · intro w hSw
          try dsimp only at hSw
          go_simp
          try with_reducible rfl
        try simp only [Act.put, List.setIfInBounds_toArray, List.set_cons_zero, List.set_cons_succ]
        refine wpAnyH_take (i := 12) (oi := { dst := some 37, op := _, type := _, pos := _, after := _, guard := _ }) (v := ?_) rfl (by kernel_rfl) (by kernel_rfl) (by kernel_rfl) (fun _ _ _ h => h) (Or.inl ⟨by rfl, ?_⟩) (by assumption) ?_
        rotate_left
        · intro w hSw
          try dsimp only at hSw
          go_simp
          try with_reducible rfl
        try simp only [Act.put, List.setIfInBounds_toArray, List.set_cons_zero, List.set_cons_succ]
        refine wpAnyH_done (by kernel_rfl) ?_ _
        have HK3 := Lib.hid (HKd.out.step hb)
        have HIx2 := Lib.hid hix.pos
        clear S0 hix hb
        obtain ⟨c0, c1, x0, x1, x2, x3⟩ := HK3.out.cells
        simp only at x0 x1 x2 x3
        by_cases hr2 : r2 < 0
        · have hq2 : (clOf (cs.take k) sup).isSome = false := by rcases HIx2.out with h | h; omega; exact h.2
          have HE6 := Lib.hid (HE.out.trans (if_pos ⟨hz, hq2⟩))
          clear hq2
          go_wp2_with fail
          go_ret
          exact ⟨by rw [HE6.out]; rfl, HK3.out.low⟩
        · have hq2 : (clOf (cs.take k) sup).isSome = true := by rcases HIx2.out with h | h; exact h.2; omega
          have hl1 := HS.out.1.1
          have hl2 := HS.out.2.1
          by_cases hp : 64 < p1
          · have d1 : (p1 : Int) > 64 := by omega
            go_wp2_with fail
            go_ret
            exact ⟨by rw [HE.out, if_neg (fun h => by have := h.2; rw [hq2] at this; cases this), if_pos (.inl (by omega))]; rfl, HK3.out.low⟩
          · have d1 : ¬ (p1 : Int) > 64 := by omega
            by_cases hp2 : 64 < p2
            · have d2 : (p2 : Int) > 64 := by omega
              go_wp2_with fail
              go_ret
              exact ⟨by rw [HE.out, if_neg (fun h => by have := h.2; rw [hq2] at this; cases this), if_pos (.inr (by omega))]; rfl, HK3.out.low⟩
            · have d2 : ¬ (p2 : Int) > 64 := by omega
              have HE2 := Lib.hid (show errCl ts (cs.take k) ⟨cn, sup, mu, ma⟩ = if typedB ts mu = false ∨ typedB ts ma = false then 6 else 0 by rw [HE.out, if_neg (fun h => by have := h.2; rw [hq2] at this; cases this), if_neg (by omega)])
              have HS1 := Lib.hid HS.out.1
              have HS2 := Lib.hid HS.out.2
              clear HE d1
              go_wp2_with fail
              go_loopw [6] (fun i wr => ∃ j : Nat, j ≤ p1 ∧ i = .int .i64 j ∧ Hid (typedB ts (mu.take j) = true) ∧ Hid (KB w wr ao n cap (some ⟨b, off, none⟩) m dap ⟨⟨cn, sup, mu, ma⟩, .slice a1 p1 q1, .slice a2 p2 q2⟩)) (fun i _ => p1 - (intOf i).toNat)
              case atStart => exact ⟨0, Nat.zero_le _, rfl, Lib.hid rfl, HK3⟩
              case round =>
                clear c0 c1 x0 x1 x2 x3
                obtain ⟨j, hj, rfl, HA, HKj⟩ := hrel
                obtain ⟨c0, c1, x0, x1, x2, x3⟩ := HKj.out.cells
                simp only at x0 x1 x2 x3
                by_cases hlt : j < p1
                · obtain ⟨g, o, rfl, hgl, hcs⟩ := (HS1.out.below HKj.out.low).2.2.2 (by omega)
                  have hcell := hcs j (by rw [HS1.out.1]; exact hlt)
                  obtain ⟨x, hx⟩ : ∃ x, partAt mu j = x := ⟨_, rfl⟩
                  have hxs : x.size ≤ 1000000000 := by rw [← hx]; exact hn2 _ (part_mem mu j (by rw [HS1.out.1]; exact hlt))
                  rw [hx] at hcell
                  have HX := Lib.hid hx
                  have e1 : (0 : Int) ≤ (j : Int) := by omega
                  have e2 : (j : Int) < (p1 : Int) := by omega
                  clear hcs hx
                  go_wp2_with fail
                  refine wp_region_still_tail 7 (by kernel_rfl) (by kernel_rfl) ?_
                  simp only [List.take_succ_cons, List.take_zero, List.drop_succ_cons, List.drop_zero]
                  change wpStill _ _ (World.drew _) _ _ _
                  still_step
                  still_step
                  still_step
                  still_step
                  still_step
                  still_step
                  still_step
                  refine wpStill_nil ?_
                  change wpList _ _ _ _ _ (World.drew _)
                  have HKd := Lib.hid (HKj.out.step (Below.refl _ _).drew)
                  clear c0 c1 x0 x1 x2 x3 hcell
                  generalize World.drew _ = Wd at HKd ⊢
                  obtain ⟨c0, c1, x0, x1, x2, x3⟩ := HKd.out.cells
                  simp only at x0 x1 x2 x3
                  have HCt := Lib.hid (typeAt_s ao n cap ts x Wd (HIn.out.1.below HKd.out.low) HIn.out.2.2.1 hxs)
                  go_wp2_with fail
                  refine HCt.out.mono ?_
                  rintro e We ⟨r', rfl, hix, hb⟩
                  have HKe := Lib.hid (HKd.out.step hb)
                  have HIx' := Lib.hid hix.pos
                  clear c0 c1 x0 x1 x2 x3 hb hix HCt
                  obtain ⟨c0, c1, x0, x1, x2, x3⟩ := HKe.out.cells
                  simp only at x0 x1 x2 x3
                  by_cases hr' : r' < 0
                  · have hq : (tyOf ts x).isSome = false := by rcases HIx'.out with h | h; omega; exact h.2
                    have HF := Lib.hid (show typedB ts mu = false from all_false (by rw [HS1.out.1]; exact hlt) (by rw [HX.out]; exact hq))
                    clear hq
                    go_wp2_with fail
                    go_ret
                    exact ⟨by rw [HE2.out, if_pos (.inl HF.out)]; rfl, HKe.out.low⟩
                  · have hq : (tyOf ts x).isSome = true := by rcases HIx'.out with h | h; exact h.2; omega
                    have HA2 := Lib.hid (show typedB ts (mu.take (j + 1)) = true from all_take HA.out (by rw [HS1.out.1]; exact hlt) (by rw [HX.out]; exact hq))
                    clear hq
                    go_wp2_with fail
                    go_roundw
                    case rel => exact ⟨j + 1, by omega, by go_num, HA2, HKe⟩
                    case measure => simp [intOf]; omega
                · obtain rfl : p1 = j := by omega
                  have e3 : ¬ (p1 : Int) < (p1 : Int) := by omega
                  have HAll := Lib.hid (show typedB ts mu = true by have := HA.out; rwa [List.take_of_length_le (by have := HS1.out.1; omega)] at this)
                  go_wp2_with fail
                  have HM := Lib.hid HAll.out
                  clear HAll HA
                  go_loopw [7] (fun i wr => ∃ j : Nat, j ≤ p2 ∧ i = .int .i64 j ∧ Hid (typedB ts (ma.take j) = true) ∧ Hid (KB w wr ao n cap (some ⟨b, off, none⟩) m dap ⟨⟨cn, sup, mu, ma⟩, .slice a1 p1 q1, .slice a2 p2 q2⟩)) (fun i _ => p2 - (intOf i).toNat)
                  case atStart => exact ⟨0, Nat.zero_le _, rfl, Lib.hid rfl, HKj⟩
                  case round =>
                    clear c0 c1 x0 x1 x2 x3
                    obtain ⟨j, hj, rfl, HA, HKj⟩ := hrel
                    obtain ⟨c0, c1, x0, x1, x2, x3⟩ := HKj.out.cells
                    simp only at x0 x1 x2 x3
                    by_cases hlt : j < p2
                    · obtain ⟨g, o, rfl, hgl, hcs⟩ := (HS2.out.below HKj.out.low).2.2.2 (by omega)
                      have hcell := hcs j (by rw [HS2.out.1]; exact hlt)
                      obtain ⟨x, hx⟩ : ∃ x, partAt ma j = x := ⟨_, rfl⟩
                      have hxs : x.size ≤ 1000000000 := by rw [← hx]; exact hn3 _ (part_mem ma j (by rw [HS2.out.1]; exact hlt))
                      rw [hx] at hcell
                      have HX := Lib.hid hx
                      have e1 : (0 : Int) ≤ (j : Int) := by omega
                      have e2 : (j : Int) < (p2 : Int) := by omega
                      clear hcs hx
                      go_wp2_with fail
                      refine wp_region_still_tail 7 (by kernel_rfl) (by kernel_rfl) ?_
                      simp only [List.take_succ_cons, List.take_zero, List.drop_succ_cons, List.drop_zero]
                      change wpStill _ _ (World.drew _) _ _ _
                      still_step
                      still_step
                      still_step
                      still_step
                      still_step
                      still_step
                      still_step
                      refine wpStill_nil ?_
                      change wpList _ _ _ _ _ (World.drew _)
                      have HKd := Lib.hid (HKj.out.step (Below.refl _ _).drew)
                      clear c0 c1 x0 x1 x2 x3 hcell
                      generalize World.drew _ = Wd at HKd ⊢
                      obtain ⟨c0, c1, x0, x1, x2, x3⟩ := HKd.out.cells
                      simp only at x0 x1 x2 x3
                      have HCt := Lib.hid (typeAt_s ao n cap ts x Wd (HIn.out.1.below HKd.out.low) HIn.out.2.2.1 hxs)
                      go_wp2_with fail
                      refine HCt.out.mono ?_
                      rintro e We ⟨r', rfl, hix, hb⟩
                      have HKe := Lib.hid (HKd.out.step hb)
                      have HIx' := Lib.hid hix.pos
                      clear c0 c1 x0 x1 x2 x3 hb hix HCt
                      obtain ⟨c0, c1, x0, x1, x2, x3⟩ := HKe.out.cells
                      simp only at x0 x1 x2 x3
                      by_cases hr' : r' < 0
                      · have hq : (tyOf ts x).isSome = false := by rcases HIx'.out with h | h; omega; exact h.2
                        have HF := Lib.hid (show typedB ts ma = false from all_false (by rw [HS2.out.1]; exact hlt) (by rw [HX.out]; exact hq))
                        clear hq
                        go_wp2_with fail
                        go_ret
                        exact ⟨by rw [HE2.out, if_pos (.inr HF.out)]; rfl, HKe.out.low⟩
                      · have hq : (tyOf ts x).isSome = true := by rcases HIx'.out with h | h; exact h.2; omega
                        have HA2 := Lib.hid (show typedB ts (ma.take (j + 1)) = true from all_take HA.out (by rw [HS2.out.1]; exact hlt) (by rw [HX.out]; exact hq))
                        clear hq
                        go_wp2_with fail
                        go_roundw
                        case rel => exact ⟨j + 1, by omega, by go_num, HA2, HKe⟩
                        case measure => simp [intOf]; omega
                    · obtain rfl : p2 = j := by omega
                      have e3 : ¬ (p2 : Int) < (p2 : Int) := by omega
                      have HAll := Lib.hid (show typedB ts ma = true by have := HA.out; rwa [List.take_of_length_le (by have := HS2.out.1; omega)] at this)
                      go_wp2_with fail
                      go_ret
                      exact ⟨by rw [HE2.out, if_neg (by rw [HM.out, HAll.out]; simp)]; rfl, HKj.out.low⟩
end Go.Proofs.YtmmdaegdkikkpaaGreatDoor
end
