/-
  Texts of the schema layer and of those beneath it, joined: SchPar. Conditions stand at each contract.
-/
import Derived.Test.YtclfjdnemafmeaaGreatDoorQ10
import Derived.Test.YtclfjdnemafmeaaGreatDoorQ21
set_option linter.unusedVariables false
set_option linter.unusedSimpArgs false
set_option linter.unnecessarySimpa false

section
/-
  Contract of schema's Parse. Condition: a text of at most 1000000 bytes; the package's words as the card says.
-/
set_option maxRecDepth 100000
namespace Go.Proofs.YtclfjdnemafmeaaGreatDoor
open Go.RowKit Go.PlainAid
theorem cutF_s (t : ByteArray) (b : UInt8) (w : World) (ht : t.size ≤ 1000000) (hm : MaxOk w) :
    Calls Tryz.prog 74 #[.string t, .string ⟨#[b]⟩] w fun e w' => e = .returned (.tuple #[.string (cutBef t ⟨#[b]⟩), .string (cutAft t ⟨#[b]⟩), .bool (cutOk t ⟨#[b]⟩)]) ∧ Below w.heap.size w w' := by
  obtain ⟨m, hm⟩ := hm
  refine (Tryz.strings_Cut t ⟨#[b]⟩ m w (by omega) hm).mono fun e w' h => ⟨h.1, ?_⟩
  obtain ⟨n, rfl⟩ := h.2
  exact ⟨rfl, rfl, rfl, Nat.le_refl _, fun _ _ => rfl⟩
theorem cut_lt {s : ByteArray} (h : cutOk s ⟨#[10]⟩ = true) : (cutAft s ⟨#[10]⟩).size < s.size ∧ (cutBef s ⟨#[10]⟩).size ≤ s.size := by
  rcases cut_one s 10 with ⟨_, _, h1, h2, _⟩ | ⟨h0, _⟩
  · exact ⟨h1, h2⟩
  · rw [h] at h0; cases h0
/-- the lines read onto a schema: the schema, or the number of the line with the first fault -/
def readL (ts : List Ty) (cs : List Cl) (s : ByteArray) (n : Nat) : Option (List Ty × List Cl) × Nat :=
  if s = ⟨#[]⟩ then (some (ts, cs), 0)
  else if hc : cutOk s ⟨#[10]⟩ = true then
    match lineL ts cs (cutBef s ⟨#[10]⟩) with
    | some r => readL r.1 r.2 (cutAft s ⟨#[10]⟩) (n + 1)
    | none => (none, n)
  else (none, n)
termination_by s.size
decreasing_by exact (cut_lt hc).1
theorem readL_end (ts : List Ty) (cs : List Cl) (n : Nat) : readL ts cs ⟨#[]⟩ n = (some (ts, cs), 0) := by
  rw [readL]; exact if_pos rfl
theorem readL_cut {ts : List Ty} {cs : List Cl} {s : ByteArray} {n : Nat} (h : s ≠ ⟨#[]⟩) (hc : cutOk s ⟨#[10]⟩ = false) : readL ts cs s n = (none, n) := by
  rw [readL, if_neg h, dif_neg (by rw [hc]; decide)]
theorem readL_bad {ts : List Ty} {cs : List Cl} {s : ByteArray} {n : Nat} (h : s ≠ ⟨#[]⟩) (hl : lineL ts cs (cutBef s ⟨#[10]⟩) = none) : readL ts cs s n = (none, n) := by
  rw [readL, if_neg h]
  split
  · rw [hl]
  · rfl
theorem readL_step {ts : List Ty} {cs : List Cl} {s : ByteArray} {n : Nat} {r : List Ty × List Cl} (h : s ≠ ⟨#[]⟩) (hc : cutOk s ⟨#[10]⟩ = true) (hl : lineL ts cs (cutBef s ⟨#[10]⟩) = some r) : readL ts cs s n = readL r.1 r.2 (cutAft s ⟨#[10]⟩) (n + 1) := by
  rw [readL, if_neg h, dif_pos hc, hl]
theorem part_sz {l : List ByteArray} {N : Nat} (h : ∀ x ∈ l, x.size ≤ N) (j : Nat) : (partAt l j).size ≤ N := by
  unfold partAt
  rw [List.getD_eq_getElem?_getD]
  cases e : l[j]? with
  | none => simp
  | some x => exact h x (List.mem_of_getElem? e)
theorem rdList_sz {s : ByteArray} {x : ByteArray} (h : x ∈ rdListV s) : x.size ≤ s.size := by
  unfold rdListV at h
  split at h
  · cases h
  · split at h
    · exact partsB_small h
    · cases h
theorem sup_sz (s : ByteArray) : (supV s).size ≤ s.size := by
  unfold supV
  split
  · exact Nat.zero_le _
  · exact Nat.le_refl _
theorem rdType_sz {l : List ByteArray} {N : Nat} (h : ∀ x ∈ l, x.size ≤ N) {t : Ty} (ht : rdType l = some t) : t.name.size ≤ N := by
  have key : ∀ b, rdTy l b = some t → t.name.size ≤ N := fun b hb => by
    unfold rdTy at hb
    split at hb
    · rw [← Option.some.inj hb]; exact part_sz h 0
    · cases hb
  unfold rdType at ht
  split at ht
  · exact key _ ht
  · split at ht
    · exact key _ ht
    · cases ht
theorem rdClass_sz {l : List ByteArray} {N : Nat} (h : ∀ x ∈ l, x.size ≤ N) {c : Cl} (hc : rdClass l = some c) : c.name.size ≤ N ∧ c.super.size ≤ N ∧ (∀ s ∈ c.must, s.size ≤ N) ∧ ∀ s ∈ c.may, s.size ≤ N := by
  unfold rdClass at hc
  split at hc
  · split at hc
    · rw [← Option.some.inj hc]
      exact ⟨part_sz h 0, Nat.le_trans (sup_sz _) (part_sz h 1), fun s hs => Nat.le_trans (rdList_sz hs) (part_sz h 2), fun s hs => Nat.le_trans (rdList_sz hs) (part_sz h 3)⟩
    · cases hc
  · cases hc
theorem lineL_sm {ts : List Ty} {cs : List Cl} {s : ByteArray} {r : List Ty × List Cl} (h : lineL ts cs s = some r) (hs : s.size ≤ 1000000) (h1 : SmT ts) (h2 : SmC cs) : SmT r.1 ∧ SmC r.2 ∧ r.1.length + r.2.length = ts.length + cs.length + 1 := by
  have hz : ∀ x ∈ (partsB 32 s).tail, x.size ≤ 1000000000 := fun x hx => Nat.le_trans (partsB_small (List.mem_of_mem_tail hx)) (by omega)
  unfold lineL at h
  split at h
  · split at h
    · rename_i t ht
      split at h
      · rw [← Option.some.inj h]
        refine ⟨fun u hu => ?_, h2, by simp; omega⟩
        rcases List.mem_append.1 hu with hu | hu
        · exact h1 u hu
        · rw [List.mem_singleton.1 hu]; exact rdType_sz hz ht
      · cases h
    · cases h
  · split at h
    · split at h
      · rename_i c hc
        rw [← Option.some.inj h]
        refine ⟨h1, fun u hu => ?_, by simp; omega⟩
        rcases List.mem_append.1 hu with hu | hu
        · exact h2 u hu
        · rw [List.mem_singleton.1 hu]; exact rdClass_sz hz hc
      · cases h
    · cases h
def parE (s : ByteArray) : Int := if 4096 < s.size then 3 else match (readL [] [] s 1).1 with
  | none => 4
  | some r => chkS r.1 r.2
def parN (s : ByteArray) : Nat := if 4096 < s.size then 0 else match (readL [] [] s 1).1 with
  | none => (readL [] [] s 1).2
  | some _ => 0
def parR (s : ByteArray) : List Ty × List Cl := if 4096 < s.size then ([], []) else match (readL [] [] s 1).1 with
  | none => ([], [])
  | some r => if chkS r.1 r.2 = 0 then r else ([], [])
def ParP (s : ByteArray) (w : World) (e : Ending) (w' : World) : Prop :=
  ∃ v, e = .returned (.tuple #[v, .int .i64 (parN s), .int .i64 (parE s)]) ∧ SchV w' v (parR s).1 (parR s).2 ∧ Below w.heap.size w w'
theorem schv_nil (w : World) : SchV w (.agg #[.slice none 0 0, .slice none 0 0]) [] [] :=
  ⟨none, 0, 0, none, 0, 0, rfl, ⟨rfl, Nat.le_refl _, by unfold maxLen; omega, fun h => absurd h (Nat.lt_irrefl _)⟩, ⟨rfl, Nat.le_refl _, by unfold maxLen; omega, fun h => absurd h (Nat.lt_irrefl _)⟩, (fun _ h => by cases h), (fun _ h => by cases h)⟩
theorem ParP.no {s : ByteArray} {w w' : World} {n : Nat} (hs : s.size ≤ 4096) (h : readL [] [] s 1 = (none, n)) (hb : Below w.heap.size w w') : ParP s w (.returned (.tuple #[.agg #[.slice none 0 0, .slice none 0 0], .int .i64 n, .int .i64 4])) w' := by
  have hn : ¬ 4096 < s.size := by omega
  have e1 : parN s = n := by unfold parN; rw [if_neg hn, h]
  have e2 : parE s = 4 := by unfold parE; rw [if_neg hn, h]
  have e3 : parR s = ([], []) := by unfold parR; rw [if_neg hn, h]
  exact ⟨_, by rw [e1, e2], by rw [e3]; exact schv_nil w', hb⟩
theorem ParP.big {s : ByteArray} {w w' : World} (hs : 4096 < s.size) (hb : Below w.heap.size w w') : ParP s w (.returned (.tuple #[.agg #[.slice none 0 0, .slice none 0 0], .int .i64 0, .int .i64 3])) w' := by
  have e1 : parN s = 0 := if_pos hs
  have e2 : parE s = 3 := if_pos hs
  have e3 : parR s = ([], []) := if_pos hs
  exact ⟨_, by rw [e1, e2]; rfl, by rw [e3]; exact schv_nil w', hb⟩
theorem ParP.bad {s : ByteArray} {w w' : World} {r : List Ty × List Cl} {q : Nat} {c : Int} (hs : s.size ≤ 4096) (h : readL [] [] s 1 = (some r, q)) (hc : chkS r.1 r.2 = c) (h0 : c ≠ 0) (hb : Below w.heap.size w w') : ParP s w (.returned (.tuple #[.agg #[.slice none 0 0, .slice none 0 0], .int .i64 0, .int .i64 c])) w' := by
  have hn : ¬ 4096 < s.size := by omega
  have e1 : parN s = 0 := by unfold parN; rw [if_neg hn, h]
  have e2 : parE s = c := by unfold parE; rw [if_neg hn, h]; exact hc
  have e3 : parR s = ([], []) := by unfold parR; rw [if_neg hn, h]; exact if_neg (by rw [hc]; exact h0)
  exact ⟨_, by rw [e1, e2]; rfl, by rw [e3]; exact schv_nil w', hb⟩
theorem ParP.yes {s : ByteArray} {w w' : World} {r : List Ty × List Cl} {q : Nat} {v : Value} (hs : s.size ≤ 4096) (h : readL [] [] s 1 = (some r, q)) (hc : chkS r.1 r.2 = 0) (hv : SchV w' v r.1 r.2) (hb : Below w.heap.size w w') : ParP s w (.returned (.tuple #[v, .int .i64 0, .int .i64 0])) w' := by
  have hn : ¬ 4096 < s.size := by omega
  have e1 : parN s = 0 := by unfold parN; rw [if_neg hn, h]
  have e2 : parE s = 0 := by unfold parE; rw [if_neg hn, h]; exact hc
  have e3 : parR s = r := by unfold parR; rw [if_neg hn, h]; exact if_pos hc
  exact ⟨_, by rw [e1, e2]; rfl, by rw [e3]; exact hv, hb⟩
theorem SB.schv {W : World} {b : Nat} {ts : List Ty} {cvs : List Cv} {vt vc : Value} (h : SB W b ts cvs vt vc) (h1 : SmT ts) (h2 : SmC (ccls cvs)) : SchV W (.agg #[vt, vc]) ts (ccls cvs) := by
  obtain ⟨ao, cap, rfl, a1⟩ := tys_own h.rowT rfl
  obtain ⟨bo, dap, rfl, a2⟩ := cls_own h.rowC rfl h.ok
  exact ⟨ao, _, cap, bo, _, dap, rfl, a1, a2, h1, h2⟩
theorem sb_new (w : World) (o : Obj) : SB ((w.alloc o).alloc (.cells #[.slice none 0 0, .slice none 0 0] 25)) (w.heap.size + 1) [] [] (.slice none 0 0) (.slice none 0 0) :=
  ⟨by have := heap_alloc_new (w.alloc o) (.cells #[.slice none 0 0, .slice none 0 0] 25); simpa using this, World.ownsRow_nil _ _ _ _, World.ownsRow_nil _ _ _ _, .inl rfl, (fun _ h => by cases h), (fun _ h => by cases h)⟩
theorem emp_true {s : ByteArray} (h : s = ⟨#[]⟩) : s.toList.isEmpty = true := by rw [h, Lib.toList_data]; rfl
theorem emp_false {s : ByteArray} (h : s ≠ ⟨#[]⟩) : s.toList.isEmpty = false := by
  rw [Lib.toList_data]
  rcases s with ⟨⟨l⟩⟩
  cases l with
  | nil => exact absurd rfl h
  | cons => rfl
def strN : Value → Nat
  | .string s => s.size
  | _ => 0
set_option maxHeartbeats 8000000 in
theorem parseF_s (s : ByteArray) (w : World) (hs : s.size ≤ 1000000000) (hm : MaxOk w) (hg : 1 < w.heap.size) (ho : SynOk w) :
    Calls Tryz.prog 33 #[.string s] w fun e w' => ParP s w e w' := by
  by_cases hbig : 4096 < s.size
  · have d1 : (s.size : Int) > 4096 := by omega
    go_enter Tryz.func33, Tryz.ntmps33
    go_wp2_with fail
    refine bodyPost_ret (v := .tuple #[.agg #[.slice none 0 0, .slice none 0 0], .int .i64 0, .int .i64 3]) (by simp only [results, Tryz.results33]; go_simp) rfl ?_
    exact ParP.big hbig ((Below.refl _ _).alloc (Nat.le_refl _) _)
  · have d1 : ¬ (s.size : Int) > 4096 := by omega
    have hle : s.size ≤ 4096 := by omega
    have hb0 : Below w.heap.size w ((w.alloc (.cells #[.slice none 0 0, .slice none 0 0] 25)).alloc (.cells #[.slice none 0 0, .slice none 0 0] 25)) := ((Below.refl _ _).alloc (Nat.le_refl _) _).alloc (by simp) _
    have HB0 := Lib.hid hb0
    have HSB := Lib.hid (sb_new w (.cells #[.slice none 0 0, .slice none 0 0] 25))
    have HM := Lib.hid (And.intro hm ho)
    clear hb0 hm ho
    go_enter Tryz.func33, Tryz.ntmps33
    go_wp2_with fail
    go_loopw [0, 6, 7, 8, 9] (fun s0 s6 s7 s8 s9 wr => ∃ (ts : List Ty) (cvs : List Cv) (vt vc : Value) (cur : ByteArray) (n : Nat), s0 = .string cur ∧ s6 = .int .i64 n ∧ ts.length + cvs.length + cur.size ≤ 4096 ∧ n + cur.size ≤ 4097 ∧ Hid (SB wr (w.heap.size + 1) ts cvs vt vc) ∧ Hid (readL [] [] s 1 = readL ts (ccls cvs) cur n) ∧ Hid (SmT ts ∧ SmC (ccls cvs)) ∧ Hid (wr.heap[w.heap.size]? = some (.cells #[.slice none 0 0, .slice none 0 0] 25)) ∧ Hid (Below w.heap.size w wr)) (fun s0 _ _ _ _ _ => strN s0)
    case atStart =>
      refine ⟨[], [], _, _, s, 1, rfl, rfl, by simpa using hle, by omega, HSB, Lib.hid rfl, Lib.hid ⟨(fun _ h => by cases h), (fun _ h => by cases h)⟩, Lib.hid ?_, HB0⟩
      exact (Below.heap_alloc _ _ _ (by simp)).trans (heap_alloc_new w _)
    case round =>
      clear HSB HB0
      obtain ⟨ts, cvs, vt, vc, cur, n, rfl, rfl, hl1, hl2, HS, HR, HSm, HBx, HB⟩ := hrel
      have HM2 := Lib.hid (And.intro (HM.out.1.below HB.out hg) (HM.out.2.below HB.out))
      have hlt := HS.out.lt
      obtain ⟨ao, cap, rfl⟩ := row_slice HS.out.rowT
      obtain ⟨bo, dap, rfl⟩ := row_slice HS.out.rowC
      by_cases hz : cur = ⟨#[]⟩
      · have d2 := emp_true hz
        have HR2 := Lib.hid (show readL [] [] s 1 = (some (ts, ccls cvs), 0) by rw [HR.out, hz, readL_end])
        obtain ⟨q0, q1⟩ : wr.cell? ⟨w.heap.size + 1, 0, none⟩ = some (.slice ao ts.length cap) ∧ wr.cell? ⟨w.heap.size + 1, 1, none⟩ = some (.slice bo cvs.length dap) := ⟨heap_cell HS.out.blk rfl, heap_cell HS.out.blk rfl⟩
        have HCk := Lib.hid (checkF_s _ ts (ccls cvs) wr (HS.out.schv HSm.out.1 HSm.out.2))
        obtain ⟨c, hc⟩ : ∃ c, chkS ts (ccls cvs) = c := ⟨_, rfl⟩
        rw [hc] at HCk
        have HC := Lib.hid hc
        clear hz hc
        go_wp2_with fail
        refine HCk.out.mono ?_
        rintro e w2 ⟨rfl, hb⟩
        have HS2 := Lib.hid (HS.out.below hb)
        have HB2 := Lib.hid (HB.out.trans (hb.mono HB.out.size))
        have hx := (hb.block w.heap.size (by omega)).trans HBx.out
        obtain ⟨q0, q1⟩ : w2.cell? ⟨w.heap.size + 1, 0, none⟩ = some (.slice ao ts.length cap) ∧ w2.cell? ⟨w.heap.size + 1, 1, none⟩ = some (.slice bo cvs.length dap) := ⟨heap_cell HS2.out.blk rfl, heap_cell HS2.out.blk rfl⟩
        obtain ⟨r0, r1⟩ : w2.cell? ⟨w.heap.size, 0, none⟩ = some (.slice none 0 0) ∧ w2.cell? ⟨w.heap.size, 1, none⟩ = some (.slice none 0 0) := ⟨heap_cell hx rfl, heap_cell hx rfl⟩
        have f0 : w2.frozen? ⟨w.heap.size, 0, none⟩ = false := heap_frozen hx
        have f1 : w2.frozen? ⟨w.heap.size, 1, none⟩ = false := heap_frozen hx
        clear hb hx
        by_cases h0 : c = 0
        · subst h0
          go_wp2_with fail
          refine bodyPost_ret (v := .tuple #[.agg #[.slice ao ts.length cap, .slice bo cvs.length dap], .int .i64 0, .int .i64 0]) (by simp only [results, Tryz.results33]; go_simp) rfl ?_
          exact ParP.yes hle HR2.out HC.out (((HS2.out.other ⟨w.heap.size, 0, none⟩ (Nat.lt_succ_self _) _).other ⟨w.heap.size, 1, none⟩ (Nat.lt_succ_self _) _).schv HSm.out.1 HSm.out.2) (below_set1 (below_set1 HB2.out w.heap.size 0 (Nat.le_refl _) _) w.heap.size 1 (Nat.le_refl _) _)
        · go_wp2_with fail
          refine bodyPost_ret (v := .tuple #[.agg #[.slice none 0 0, .slice none 0 0], .int .i64 0, .int .i64 c]) (by simp only [results, Tryz.results33]; go_simp) rfl ?_
          exact ParP.bad hle HR2.out HC.out h0 (below_set1 (below_set1 HB2.out w.heap.size 0 (Nat.le_refl _) _) w.heap.size 1 (Nat.le_refl _) _)
      · have d2 := emp_false hz
        have HC := Lib.hid (cutF_s cur 10 wr (by omega) HM2.out.1)
        obtain ⟨ln, hln⟩ : ∃ x, cutBef cur ⟨#[10]⟩ = x := ⟨_, rfl⟩
        obtain ⟨rs, hrs⟩ : ∃ x, cutAft cur ⟨#[10]⟩ = x := ⟨_, rfl⟩
        obtain ⟨ok, hok⟩ : ∃ x, cutOk cur ⟨#[10]⟩ = x := ⟨_, rfl⟩
        rw [hln, hrs, hok] at HC
        have HZ := Lib.hid hz
        clear hz
        cases ok
        · have HR2 := Lib.hid (HR.out.trans (readL_cut HZ.out hok))
          clear hln hrs hok
          go_wp2_with fail
          refine HC.out.mono ?_
          rintro e w2 ⟨rfl, hb⟩
          have HB2 := Lib.hid (HB.out.trans (hb.mono HB.out.size))
          have hx := (hb.block w.heap.size (by omega)).trans HBx.out
          obtain ⟨r0, r1⟩ : w2.cell? ⟨w.heap.size, 0, none⟩ = some (.slice none 0 0) ∧ w2.cell? ⟨w.heap.size, 1, none⟩ = some (.slice none 0 0) := ⟨heap_cell hx rfl, heap_cell hx rfl⟩
          have f0 : w2.frozen? ⟨w.heap.size, 0, none⟩ = false := heap_frozen hx
          have f1 : w2.frozen? ⟨w.heap.size, 1, none⟩ = false := heap_frozen hx
          clear hb hx
          go_wp2_with fail
          refine bodyPost_ret (v := .tuple #[.agg #[.slice none 0 0, .slice none 0 0], .int .i64 n, .int .i64 4]) (by simp only [results, Tryz.results33]; go_simp) rfl ?_
          exact ParP.no hle HR2.out (below_set1 (below_set1 HB2.out w.heap.size 0 (Nat.le_refl _) _) w.heap.size 1 (Nat.le_refl _) _)
        · have hsz := cut_lt hok
          rw [hln, hrs] at hsz
          obtain ⟨lr, hlr⟩ : ∃ x, lineL ts (ccls cvs) ln = x := ⟨_, rfl⟩
          have HLr := Lib.hid (And.intro hok (And.intro hln (And.intro hrs hlr)))
          clear hok hln hrs hlr
          go_wp2_with fail
          refine HC.out.mono ?_
          rintro e w2 ⟨rfl, hb⟩
          have HS2 := Lib.hid (HS.out.below hb)
          have HB2 := Lib.hid (HB.out.trans (hb.mono HB.out.size))
          have hx := (hb.block w.heap.size (by omega)).trans HBx.out
          have HM3 := Lib.hid (And.intro (HM.out.1.below HB2.out hg) (HM.out.2.below HB2.out))
          have HL := Lib.hid (addLine_s (w.heap.size + 1) ts cvs _ _ ln w2 HS2.out (by omega) HM3.out.1 (Nat.lt_of_lt_of_le hg HB2.out.size) HM3.out.2 (by omega) (by omega))
          have hlt2 := HS2.out.lt
          have HX := Lib.hid hx
          clear hb hx
          go_wp2_with fail
          refine HL.out.mono ?_
          rintro e w3 ⟨ts', cvs', vt', vc', rfl, hr, hS3, hb⟩
          rw [HLr.out.2.2.2] at hr ⊢
          have HB3 := Lib.hid (HB2.out.trans (hb.mono (Nat.le_succ _)))
          have hx := (hb.block w.heap.size (Nat.lt_succ_self _)).trans HX.out
          have HS3 := Lib.hid hS3
          clear hb hS3
          cases lr with
          | none =>
            have HR2 := Lib.hid (HR.out.trans (readL_bad HZ.out (by rw [HLr.out.2.1]; exact HLr.out.2.2.2)))
            obtain ⟨r0, r1⟩ : w3.cell? ⟨w.heap.size, 0, none⟩ = some (.slice none 0 0) ∧ w3.cell? ⟨w.heap.size, 1, none⟩ = some (.slice none 0 0) := ⟨heap_cell hx rfl, heap_cell hx rfl⟩
            have f0 : w3.frozen? ⟨w.heap.size, 0, none⟩ = false := heap_frozen hx
            have f1 : w3.frozen? ⟨w.heap.size, 1, none⟩ = false := heap_frozen hx
            clear hr hx
            go_wp2_with fail
            refine bodyPost_ret (v := .tuple #[.agg #[.slice none 0 0, .slice none 0 0], .int .i64 n, .int .i64 4]) (by simp only [results, Tryz.results33]; go_simp) rfl ?_
            exact ParP.no hle HR2.out (below_set1 (below_set1 HB3.out w.heap.size 0 (Nat.le_refl _) _) w.heap.size 1 (Nat.le_refl _) _)
          | some r =>
            have er := hr r rfl
            subst er
            have HX3 := Lib.hid hx
            have hsm := lineL_sm HLr.out.2.2.2 (by omega) HSm.out.1 HSm.out.2
            have hl3 := hsm.2.2
            simp only [ccls_len] at hl3
            have HSm3 := Lib.hid (And.intro hsm.1 hsm.2.1)
            have HR3 := Lib.hid (HR.out.trans ((readL_step HZ.out HLr.out.1 (by rw [HLr.out.2.1]; exact HLr.out.2.2.2)).trans (by rw [HLr.out.2.2.1])))
            clear hr hx hsm
            go_wp2_with fail
            go_roundw
            case rel => exact ⟨ts', cvs', vt', vc', rs, n + 1, rfl, by go_num, by omega, by omega, HS3, HR3, HSm3, HX3, HB3⟩
            case measure => simp [strN]; omega
end Go.Proofs.YtclfjdnemafmeaaGreatDoor
end
