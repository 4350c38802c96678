/-
  The contract of codec.ReadPairs. Condition: at most 1000000 bytes.
-/
import Derived.Test.YtelddbgnhfhkiabDoorCodecRP
set_option linter.unusedVariables false
set_option linter.unusedSimpArgs false
set_option linter.unnecessarySimpa false
namespace Go.Proofs.YtelddbgnhfhkiabDoor
open Go.RowKit Go.PlainAid

/-- the cells of pairs -/
def pcells (l : List Pr) : List Value := l.flatMap fun p => [.string p.1, .string p.2]
theorem pcells_append (l m : List Pr) : pcells (l ++ m) = pcells l ++ pcells m := by simp [pcells]
theorem info_pair : (Tryd.prog.info? 49).map (fun i => (i.zero, i.size, i.bytes)) = some (some (.agg #[.string ⟨#[]⟩, .string ⟨#[]⟩]), 2, 32) := by kernel_rfl
theorem cells_two_new (w : World) (x y : Value) (t : TypeId) : ∀ j u, [x, y][j]? = some u → (w.alloc (.cells #[x, y] t)).cell? ((⟨w.heap.size, 0, none⟩ : Addr).add j) = some u := by
  intro j u hj
  have h : (w.alloc (.cells #[x, y] t)).heap[w.heap.size]? = some (.cells #[x, y] t (0, 0)) := heap_alloc_new w _
  rw [show (⟨w.heap.size, 0, none⟩ : Addr).add j = ⟨w.heap.size, j, none⟩ by rw [Go.WideShapes.add_plain, Nat.zero_add], Lib.cell_of_heap h]
  match j, hj with
  | 0, hj => simpa using hj
  | 1, hj => simpa using hj
  | j + 2, hj => simp at hj
/-- 'l = append(l, p)' where l is the call's own -/
theorem push_pair {ops : Array Oper} {rest : List Oper} {o : Oper} {a : Act} {Q : Exit → Act → World → Prop} (wr : World) {base : Nat} {v : Value} {n : Nat} {xs : List Value} (hown : wr.ownsRow base 49 2 v n xs) (s x : Operand)
    (p q : ByteArray) (hgd : o.guard = none)
    (ho : o.op = .call { callee := .builtin .append, args := #[s, x], argTypes := #[23, 23] })
    (hs : a.eval s = v) (hx : a.eval x = .slice (some ⟨wr.heap.size, 0, none⟩) 1 1) (hn : n + 1 ≤ 1000000000) (hbase : base ≤ wr.heap.size)
    (h : ∀ v' w', w'.ownsRow base 49 2 v' (n + 1) (xs ++ [.string p, .string q]) → Below base wr w' → wpList Tryd.prog ops Q rest (a.put o.dst v') w') :
    wpList Tryd.prog ops Q (o :: rest) a (wr.alloc (.cells #[.string p, .string q] 49)) := by
  obtain ⟨i0, hi, hz0, hz1, hz2⟩ := info_parts info_pair
  refine wpList_append_own _ hgd s x 23 ho base 49 i0 (.agg #[.string ⟨#[]⟩, .string ⟨#[]⟩]) 2 32 Tryd.underlying23 hi hz0 hz1 hz2 rfl (by decide) v n xs hs (hown.alloc _) ⟨wr.heap.size, 0, none⟩ 1 1 [.string p, .string q] hx rfl
    (cells_two_new _ _ _ _) (by intro u hu; simp at hu; rcases hu with rfl | rfl <;> rfl) (by unfold maxLen; omega) (by omega) (by simp; omega) ?_
  intro v' w' h1 h2 _
  refine h v' w' h1 ?_
  exact ((Below.refl base wr).alloc hbase _).grown h2 (by simp; omega) (fun k hk => (hown.lt k hk).1)

/-- all pieces read as pairs -/
def readPr : List (List UInt8) → Option (List Pr)
  | [] => some []
  | p :: r => match rpO (ofL p) with
    | some x => (readPr r).map (x :: ·)
    | none => none
def rpsL (l : List UInt8) : Option (List Pr) := if l = [] then some [] else readPr (pieces 124 l)
def rpsS (s : ByteArray) : List Pr := (rpsL s.data.toList).getD []
def rpsE (s : ByteArray) : Int := match rpsL s.data.toList with
  | some _ => 0
  | none => 4
/-- what ReadPairs returns: a value that owns the pairs, and the error -/
def RPsPost (s : ByteArray) (w : World) (e : Ending) (w' : World) : Prop :=
  ∃ v, e = .returned (.tuple #[v, .int .i64 (rpsE s)]) ∧ w'.ownsRow w.heap.size 49 2 v (rpsS s).length (pcells (rpsS s)) ∧ Below w.heap.size w w'
theorem ofL_data (s : ByteArray) : ofL s.data.toList = s := Lib.mk_data s

set_option maxRecDepth 100000 in
set_option maxHeartbeats 4000000 in
theorem readPairs_s (s : ByteArray) (w : World) (hs : s.size ≤ 1000000) (hm : MaxOk w) :
    Calls Tryd.prog 8 #[.string s] w (RPsPost s w) := by
  have hmw := hm.lt
  have HS := Lib.hid (show (s.data.toList = [] → rpsL s.data.toList = some []) ∧ (s.data.toList ≠ [] → rpsL s.data.toList = readPr (pieces 124 s.data.toList)) by
    unfold rpsL; exact ⟨fun h => if_pos h, fun h => if_neg h⟩)
  obtain ⟨m0, hm0⟩ : ∃ m : Bool, m = !(s.toList.isEmpty) := ⟨_, rfl⟩
  have HM := Lib.hid (show (m0 = true → s.data.toList ≠ []) ∧ (m0 = false → s.data.toList = []) by
    rw [hm0, Lib.toList_data]; cases s.data.toList <;> simp)
  have hm1 : (!(s.toList.isEmpty)) = m0 := hm0.symm
  clear hm0
  go_enter Tryd.func8, Tryd.ntmps8
  go_wp2
  go_loopw [0, 4, 5] (fun sv lv mv wr => ∃ (u : ByteArray) (out : List Pr) (more : Bool), sv = .string u ∧ mv = .bool more ∧ u.size ≤ s.size ∧ out.length + (if more then u.size + 1 else 0) ≤ s.size + 1 ∧
      wr.ownsRow w.heap.size 49 2 lv out.length (pcells out) ∧ Below w.heap.size w wr ∧
      Hid ((more = true → rpsL s.data.toList = (readPr (pieces 124 u.data.toList)).map (out ++ ·)) ∧ (more = false → rpsL s.data.toList = some out)))
    (fun sv _ mv _ => Lib.strSize sv + boolN mv)
  case atStart =>
    refine ⟨s, [], m0, rfl, rfl, Nat.le_refl _, by simp; split <;> omega, World.ownsRow_nil _ _ _ _, Below.refl _ _, Lib.hid ⟨fun h => by rw [HS.out.2 (HM.out.1 h)]; simp, fun h => by rw [HS.out.1 (HM.out.2 h)]⟩⟩
  case round =>
    obtain ⟨u, out, more, rfl, rfl, hu, hol, hown, hbel, HR⟩ := hrel
    cases more
    · have HF := Lib.hid (HR.out.2 rfl)
      go_wp2
      go_ret2
      have e1 : rpsS s = out := by unfold rpsS; rw [HF.out]; rfl
      have e2 : rpsE s = 0 := by unfold rpsE; rw [HF.out]
      exact ⟨_, by rw [e2]; rfl, by rw [e1]; exact hown, hbel⟩
    · rw [if_pos rfl] at hol
      have HR1 := Lib.hid (HR.out.1 rfl)
      clear HR
      have HC := Lib.hid (cut_one u 124)
      have hbs : (cutBef u ⟨#[124]⟩).size ≤ u.size := by rcases HC.out with h | h; exact h.2.2.2.1; rw [h.2.2.1]; exact Nat.le_refl _
      go_wp2_with (go_at_call 26; refine (cut_b u 124 _ (by omega) (hm.below hbel hmw)).mono ?_; rintro e w1 ⟨rfl, hb1⟩)
      have hown1 := own_below hown hb1
      have hbel1 := hbel.trans (hb1.mono hbel.size)
      cases hun : rpO (cutBef u ⟨#[124]⟩) with
      | none =>
        have HF := Lib.hid (show rpsL s.data.toList = none by
          rw [HR1.out]
          rcases HC.out with h | h
          · rw [h.2.1]; unfold readPr; rw [ofL_data, hun]; rfl
          · rw [h.2.1, ← h.2.2.1]; unfold readPr; rw [ofL_data, hun]; rfl)
        go_wp2_with (go_at_call 27; refine (readPair_no (cutBef u ⟨#[124]⟩) _ (by omega) (hm.below hbel1 hmw) hun).mono ?_; rintro e w2 ⟨rfl, hb2⟩)
        have hbel2 := hbel1.trans (hb2.mono hbel1.size)
        go_ret2
        have e1 : rpsS s = [] := by unfold rpsS; rw [HF.out]; rfl
        have e2 : rpsE s = 4 := by unfold rpsE; rw [HF.out]
        refine ⟨_, by rw [e2]; rfl, by rw [e1]; exact World.ownsRow_nil _ _ _ _, ?_⟩
        exact hbel2.alloc hbel2.size _
      | some x =>
        obtain ⟨x, y⟩ := x
        have hcells : pcells (out ++ [(x, y)]) = pcells out ++ [.string x, .string y] := pcells_append _ _
        go_wp2_with (first
          | (go_at_call 27; refine (readPair_ok (cutBef u ⟨#[124]⟩) x y _ (by omega) (hm.below hbel1 hmw) hun).mono ?_; rintro e w2 ⟨rfl, hb2⟩; have hown2 := own_below hown1 hb2; have hbel2 := hbel1.trans (hb2.mono hbel1.size))
          | (at_builtin; go_must (refine push_pair _ (own_below hown2 ?_) (.tmp 26) (.tmp 28) _ _ ?_ ?_ ?_ ?_ ?_ ?_ ?_; exact (Below.refl w2.heap.size w2).alloc (Nat.le_refl _) _; exact rfl; exact rfl; exact rfl; (rw [World.size_alloc]; exact rfl); omega; (have := hbel2.size; simp; omega); intro v3 w3 hown3 hb3)))
        go_roundw
        case rel =>
          refine ⟨cutAft u ⟨#[124]⟩, out ++ [(x, y)], cutOk u ⟨#[124]⟩, rfl, rfl, ?_, ?_, ?_, (hbel2.alloc hbel2.size _).trans hb3, ?_⟩
          · rcases HC.out with h | h
            · omega
            · rw [h.2.2.2]; exact Nat.zero_le _
          · rw [List.length_append]
            rcases HC.out with h | h
            · rw [h.1]; simp; omega
            · rw [h.1]; simp; omega
          · rw [hcells, List.length_append]; exact hown3
          · refine Lib.hid ⟨fun h => ?_, fun h => ?_⟩
            · rcases HC.out with k | k
              · rw [HR1.out, k.2.1]; conv => lhs; arg 2; unfold readPr
                rw [ofL_data, hun]; simp only []; rw [Option.map_map]; congr 1; funext l; simp
              · rw [k.1] at h; cases h
            · rcases HC.out with k | k
              · rw [k.1] at h; cases h
              · rw [HR1.out, k.2.1, ← k.2.2.1]; unfold readPr; rw [ofL_data, hun]; unfold readPr; simp
        case measure =>
          rcases HC.out with h | h
          · rw [h.1]; simp [Lib.strSize, boolN]; omega
          · rw [h.1, h.2.2.2]; simp [Lib.strSize, boolN]; exact Nat.zero_lt_succ _

end Go.Proofs.YtelddbgnhfhkiabDoor
