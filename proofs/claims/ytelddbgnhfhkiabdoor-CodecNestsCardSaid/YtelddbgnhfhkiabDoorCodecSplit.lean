/-
  The contract of codec.Split. Condition: at most 1000000 bytes.
-/
import Derived.Test.YtelddbgnhfhkiabDoorCodecUn
import Derived.Test.YtelddbgnhfhkiabDoorCodecC
set_option linter.unusedVariables false
set_option linter.unusedSimpArgs false
set_option linter.unnecessarySimpa false
namespace Go.Proofs.YtelddbgnhfhkiabDoor
open Go.RowKit Go.PlainAid

theorem cut_b (t : ByteArray) (b : UInt8) (w : World) (ht : t.size ≤ 1000000000) (hm : MaxOk w) :
    Calls Tryd.prog 26 #[.string t, .string ⟨#[b]⟩] w fun e w' => e = .returned (.tuple #[.string (cutBef t ⟨#[b]⟩), .string (cutAft t ⟨#[b]⟩), .bool (cutOk t ⟨#[b]⟩)]) ∧ Below w.heap.size w w' := by
  obtain ⟨m, hm⟩ := hm
  refine (Tryd.strings_Cut t ⟨#[b]⟩ m w (by omega) hm).mono fun e w' h => ⟨h.1, ?_⟩
  obtain ⟨n, rfl⟩ := h.2
  exact ⟨rfl, rfl, rfl, Nat.le_refl _, fun _ _ => rfl⟩

/-- the cells of strings -/
def scells (l : List ByteArray) : List Value := l.map Value.string
theorem info_string : (Tryd.prog.info? 9).map (fun i => (i.zero, i.size, i.bytes)) = some (some (.string ⟨#[]⟩), 1, 16) := by kernel_rfl
/-- 'l = append(l, s)' where l is the call's own -/
theorem push_str {ops : Array Oper} {rest : List Oper} {o : Oper} {a : Act} {Q : Exit → Act → World → Prop} (wr : World) {base : Nat} {v : Value} {n : Nat} {xs : List Value} (hown : wr.ownsRow base 9 1 v n xs) (s x : Operand)
    (p : ByteArray) (hgd : o.guard = none)
    (ho : o.op = .call { callee := .builtin .append, args := #[s, x], argTypes := #[39, 39] })
    (hs : a.eval s = v) (hx : a.eval x = .slice (some ⟨wr.heap.size, 0, none⟩) 1 1) (hn : n + 1 ≤ 1000000000) (hbase : base ≤ wr.heap.size)
    (h : ∀ v' w', w'.ownsRow base 9 1 v' (n + 1) (xs ++ [.string p]) → Below base wr w' → wpList Tryd.prog ops Q rest (a.put o.dst v') w') :
    wpList Tryd.prog ops Q (o :: rest) a (wr.alloc (.cells #[.string p] 9)) := by
  obtain ⟨i0, hi, hz0, hz1, hz2⟩ := info_parts info_string
  refine wpList_append_own _ hgd s x 39 ho base 9 i0 (.string ⟨#[]⟩) 1 16 Tryd.underlying39 hi hz0 hz1 hz2 rfl (by decide) v n xs hs (hown.alloc _) ⟨wr.heap.size, 0, none⟩ 1 1 [.string p] hx rfl
    (cell_one_new _ _ _) (by intro u hu; simp at hu; subst hu; rfl) (by unfold maxLen; omega) (by omega) (by simp; omega) ?_
  intro v' w' h1 h2 _
  refine h v' w' h1 ?_
  exact ((Below.refl base wr).alloc hbase _).grown h2 (by simp; omega) (fun k hk => (hown.lt k hk).1)

def boolN : Value → Nat
  | .bool true => 1
  | _ => 0
/-- what Split returns: a value that owns the strings, and the error -/
def SplitPost (s : ByteArray) (w : World) (e : Ending) (w' : World) : Prop :=
  ∃ v, e = .returned (.tuple #[v, .int .i64 (splE s)]) ∧ w'.ownsRow w.heap.size 9 1 v (splS s).length (scells (splS s)) ∧ Below w.heap.size w w'

theorem unS_some {s : ByteArray} {x : List UInt8} (h : unesc s.data.toList = some x) : unS s = ofL x ∧ unE s = 0 := by unfold unS unE ofL; rw [h]; exact ⟨rfl, rfl⟩
theorem unS_none {s : ByteArray} (h : unesc s.data.toList = none) : unS s = ⟨#[]⟩ ∧ unE s = 4 := by unfold unS unE; rw [h]; exact ⟨rfl, rfl⟩
theorem unescape_no (s : ByteArray) (w : World) (hs : s.size ≤ 1000000000) (h : unesc s.data.toList = none) :
    Calls Tryd.prog 24 #[.string s] w fun e w' => e = .returned (.tuple #[.string ⟨#[]⟩, .int .i64 4]) ∧ Below w.heap.size w w' :=
  (unescape_s s w hs).mono fun e w' k => ⟨by rw [k.1, (unS_none h).1, (unS_none h).2], k.2⟩
theorem unescape_ok (s : ByteArray) (x : List UInt8) (w : World) (hs : s.size ≤ 1000000000) (h : unesc s.data.toList = some x) :
    Calls Tryd.prog 24 #[.string s] w fun e w' => e = .returned (.tuple #[.string (ofL x), .int .i64 0]) ∧ Below w.heap.size w w' :=
  (unescape_s s w hs).mono fun e w' k => ⟨by rw [k.1, (unS_some h).1, (unS_some h).2], k.2⟩
theorem own_below {w w' : World} {base : Nat} {e : TypeId} {size : Nat} {v : Value} {n : Nat} {xs : List Value} (h : w.ownsRow base e size v n xs) (hb : Below w.heap.size w w') : w'.ownsRow base e size v n xs :=
  h.kept (row := none) ⟨hb.os, hb.tape, hb.output, hb.size, fun k hk _ => hb.block k hk⟩ (by
    cases h : v.ownBlock
    · exact .inl rfl
    · exact .inr (by simp))

set_option maxRecDepth 100000 in
set_option maxHeartbeats 4000000 in
theorem split_s (s : ByteArray) (w : World) (hs : s.size ≤ 1000000) (hm : MaxOk w) :
    Calls Tryd.prog 22 #[.string s] w (SplitPost s w) := by
  have hmw := hm.lt
  by_cases h1 : s.data.toList = [45]
  · have HE := Lib.hid (show splS s = [] ∧ splE s = 0 by unfold splS splE splitL; rw [if_pos h1]; exact ⟨rfl, rfl⟩)
    obtain rfl : s = ⟨#[45]⟩ := by rw [← Lib.mk_data s, h1]
    clear h1
    go_enter Tryd.func22, Tryd.ntmps22
    go_wp2
    go_ret2
    exact ⟨_, by rw [HE.out.2]; rfl, by rw [HE.out.1]; exact World.ownsRow_nil _ _ _ _, Below.refl _ _⟩
  · by_cases h2 : s.data.toList = [37, 50, 68]
    · have HE := Lib.hid (show splS s = [⟨#[45]⟩] ∧ splE s = 0 by unfold splS splE splitL; rw [if_neg h1, if_pos h2]; exact ⟨rfl, rfl⟩)
      obtain rfl : s = ⟨#[37, 50, 68]⟩ := by rw [← Lib.mk_data s, h2]
      clear h1 h2
      go_enter Tryd.func22, Tryd.ntmps22
      go_wp2
      go_ret2
      refine ⟨_, by rw [HE.out.2]; rfl, ?_, (Below.refl _ _).alloc (Nat.le_refl _) _⟩
      rw [HE.out.1]
      exact World.ownsRow_lit w #[.string ⟨#[45]⟩] 1 (Nat.le_refl _) (by unfold maxLen; omega) rfl
    · have HS := Lib.hid (show splitL s.data.toList = readAll (pieces 124 s.data.toList) by unfold splitL; rw [if_neg h1, if_neg h2])
      have e1 : (s.toList == [45]) = false := by rw [Lib.toList_data]; simpa using h1
      have e2 : (s.toList == [37, 50, 68]) = false := by rw [Lib.toList_data]; simpa using h2
      clear h1 h2
      go_enter Tryd.func22, Tryd.ntmps22
      go_wp2
      go_loopw [0, 4, 5] (fun sv lv mv wr => ∃ (u : ByteArray) (out : List (List UInt8)) (more : Bool), sv = .string u ∧ mv = .bool more ∧ u.size ≤ s.size ∧ out.length + (if more then u.size + 1 else 0) ≤ s.size + 1 ∧
          wr.ownsRow w.heap.size 9 1 lv out.length (scells (out.map ofL)) ∧ Below w.heap.size w wr ∧
          Hid ((more = true → splitL s.data.toList = (readAll (pieces 124 u.data.toList)).map (out ++ ·)) ∧ (more = false → splitL s.data.toList = some out)))
        (fun sv _ mv _ => Lib.strSize sv + boolN mv)
      case atStart => exact ⟨s, [], true, rfl, rfl, Nat.le_refl _, by simp, World.ownsRow_nil _ _ _ _, Below.refl _ _, Lib.hid ⟨fun _ => by rw [HS.out]; simp, fun h => by cases h⟩⟩
      case round =>
        obtain ⟨u, out, more, rfl, rfl, hu, hol, hown, hbel, HR⟩ := hrel
        cases more
        · have HF := Lib.hid (HR.out.2 rfl)
          go_wp2
          go_ret2
          have e1 : splS s = out.map ofL := by unfold splS; rw [HF.out]
          have e2 : splE s = 0 := by unfold splE; rw [HF.out]
          exact ⟨_, by rw [e2]; rfl, by rw [e1, List.length_map]; exact hown, hbel⟩
        · rw [if_pos rfl] at hol
          have HR1 := Lib.hid (HR.out.1 rfl)
          clear HR
          have HC := Lib.hid (cut_one u 124)
          have hbs : (cutBef u ⟨#[124]⟩).size ≤ u.size := by rcases HC.out with h | h; exact h.2.2.2.1; rw [h.2.2.1]; exact Nat.le_refl _
          go_wp2_with (go_at_call 26; refine (cut_b u 124 _ (by omega) (hm.below hbel hmw)).mono ?_; rintro e w1 ⟨rfl, hb1⟩)
          have hown1 := own_below hown hb1
          have hbel1 := hbel.trans (hb1.mono hbel.size)
          cases hun : unesc (cutBef u ⟨#[124]⟩).data.toList with
          | none =>
            have HF := Lib.hid (show splitL s.data.toList = none by
              rw [HR1.out]
              rcases HC.out with h | h
              · rw [h.2.1]; unfold readAll; rw [hun]; rfl
              · rw [h.2.1, ← h.2.2.1]; unfold readAll; rw [hun]; rfl)
            go_wp2_with (go_at_call 24; refine (unescape_no (cutBef u ⟨#[124]⟩) _ (by omega) hun).mono ?_; rintro e w2 ⟨rfl, hb2⟩)
            have hbel2 := hbel1.trans (hb2.mono hbel1.size)
            go_ret2
            have e1 : splS s = [] := by unfold splS; rw [HF.out]
            have e2 : splE s = 4 := by unfold splE; rw [HF.out]
            exact ⟨_, by rw [e2]; rfl, by rw [e1]; exact World.ownsRow_nil _ _ _ _, hbel2⟩
          | some x =>
            have hcells : scells ((out ++ [x]).map ofL) = scells (out.map ofL) ++ [.string (ofL x)] := by simp [scells]
            go_wp2_with (first
              | (go_at_call 24; refine (unescape_ok (cutBef u ⟨#[124]⟩) x _ (by omega) hun).mono ?_; rintro e w2 ⟨rfl, hb2⟩; have hown2 := own_below hown1 hb2; have hbel2 := hbel1.trans (hb2.mono hbel1.size))
              | (at_builtin; go_must (refine push_str _ hown2 (.tmp 30) (.tmp 32) _ ?_ ?_ ?_ ?_ ?_ ?_ ?_; exact rfl; exact rfl; exact rfl; exact rfl; omega; exact hbel2.size; intro v3 w3 hown3 hb3)))
            go_roundw
            case rel =>
              refine ⟨cutAft u ⟨#[124]⟩, out ++ [x], cutOk u ⟨#[124]⟩, rfl, rfl, ?_, ?_, ?_, hbel2.trans hb3, ?_⟩
              · rcases HC.out with h | h
                · omega
                · rw [h.2.2.2]; exact Nat.zero_le _
              · rw [List.length_append]
                rcases HC.out with h | h
                · rw [h.1]; simp; omega
                · rw [h.1]; simp; omega
              · rw [hcells, List.length_append]; exact hown3
              · refine Lib.hid ⟨fun h => ?_, fun h => ?_⟩
                · rcases HC.out with k | k
                  · rw [HR1.out, k.2.1]; conv => lhs; arg 2; unfold readAll
                    rw [hun]; simp only []; rw [Option.map_map]; congr 1; funext l; simp
                  · rw [k.1] at h; cases h
                · rcases HC.out with k | k
                  · rw [k.1] at h; cases h
                  · rw [HR1.out, k.2.1, ← k.2.2.1]; unfold readAll; rw [hun]; unfold readAll; simp
            case measure =>
              rcases HC.out with h | h
              · rw [h.1]; simp [Lib.strSize, boolN]; omega
              · rw [h.1, h.2.2.2]; simp [Lib.strSize, boolN]; exact Nat.zero_lt_succ _

end Go.Proofs.YtelddbgnhfhkiabDoor
