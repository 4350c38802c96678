/-
  Contracts of a journal's Append, Records, Crash. Conditions: the journal lies in memory as JouM says.
-/
import Derived.Test.YtafecnaeoeanmaaDoorJouP
set_option maxRecDepth 100000
set_option linter.unusedVariables false
set_option linter.unusedSimpArgs false
set_option linter.unnecessarySimpa false
namespace Go.Proofs.YtafecnaeoeanmaaDoor
open Go.RowKit Go.PlainAid

theorem append_no (B b d : Nat) (l : List ByteArray) (v : Value) (r : ByteArray) (w : World) (h : JA w B b l d v) (hno : 4096 < r.size ∨ 4096 ≤ l.length) :
    Calls Tryd.prog 27 #[.pointer (some ⟨b, 0, none⟩), .string r] w fun e w' => e = .returned (.int .i64 3) ∧ w = w' := by
  obtain ⟨c0, c1, c2, f1, f2⟩ := h.flat
  have HM := Lib.hid (made_j h)
  obtain ⟨ao, cap, hv, hs⟩ := strs_own h.row rfl
  have hcn := h.cnt
  clear h hs
  subst hv
  rcases (show (4096 < r.size ∧ decide ((4096 : Int) < (r.size : Int)) = true) ∨ (¬ 4096 < r.size ∧ decide ((4096 : Int) < (r.size : Int)) = false ∧ 4096 ≤ l.length) by
    by_cases k : 4096 < r.size
    · exact .inl ⟨k, decide_eq_true (by omega)⟩
    · exact .inr ⟨k, decide_eq_false (by omega), by omega⟩) with ⟨k1, k2⟩ | ⟨k1, k2, k3⟩
  all_goals
    clear hno
    go_enter Tryd.func27, Tryd.ntmps27
    go_wp2_with fail
    refine HM.out.mono ?_
    rintro e w' ⟨rfl, rfl⟩
    go_wp2_with fail
    go_ret
    exact ⟨rfl, rfl⟩
set_option maxHeartbeats 2000000 in
theorem append_yes (B b d : Nat) (l : List ByteArray) (v : Value) (r : ByteArray) (w : World) (h : JA w B b l d v) (h1 : r.size ≤ 4096) (h2 : l.length < 4096) :
    Calls Tryd.prog 27 #[.pointer (some ⟨b, 0, none⟩), .string r] w fun e w' => e = .returned (.int .i64 0) ∧ ∃ v', JA w' B b (l ++ [r]) d v' ∧ Mv b v v' w w' := by
  obtain ⟨c0, c1, c2, f1, f2⟩ := h.flat
  have H := Lib.hid h
  have HM := Lib.hid (made_j h)
  obtain ⟨ao, cap, hv, hs⟩ := strs_own h.row rfl
  subst hv
  have HOw := Lib.hid h.row
  have HBs := Lib.hid (show B ≤ w.heap.size from Nat.le_trans h.low (Nat.le_of_lt h.blk.big))
  clear h hs
  have k1 : ¬ 4096 < r.size := by omega
  have k2 : decide ((4096 : Int) < (r.size : Int)) = false := decide_eq_false (by omega)
  have k3 : decide ((4096 : Int) ≤ (l.length : Int)) = false := decide_eq_false (by omega)
  have HN := Lib.hid (show l.length + 1 ≤ 1000000000 by omega)
  go_enter Tryd.func27, Tryd.ntmps27
  go_wp2_with fail
  refine HM.out.mono ?_
  rintro e w' ⟨rfl, rfl⟩
  go_wp2_with (at_builtin; refine push_j _ HOw.out (.tmp 25) (.tmp 27) r ?_ ?_ ?_ ?_ ?_ ?_ ?_; exact rfl; exact rfl; exact rfl; exact rfl; exact HN.out; exact HBs.out; intro v' w2 hown hg hat; obtain ⟨g', cap', hv', _⟩ := hown.form (by omega); subst hv'; have HB2 := Lib.hid (show w2.heap[b]? = w.heap[b]? from hg.out.block b H.out.blk.big (fun e => H.out.ne e.symm)); have d1 : w2.cell? ⟨b, 1, none⟩ = some (.slice ao l.length cap) := KbC.cell (W := w2) (HB2.out.trans H.out.blk) rfl; have d2 : w2.frozen? ⟨b, 1, none⟩ = false := KbC.frz (W := w2) (i := 1) (HB2.out.trans H.out.blk))
  go_ret
  rw [← scells_snoc] at hown
  have hown' : w2.ownsRow B 9 1 (.slice (some ⟨g', 0, none⟩) (l.length + 1) cap') (l ++ [r]).length (scells (l ++ [r])) := by simpa using hown
  have P := H.out.put (Mv.of_grown hg.out hat.out) HB2.out hown' (by have := H.out.dl; simp; omega) (by simp; omega) (fun x hx => by
    rcases List.mem_append.1 hx with hx | hx
    · exact H.out.sm x hx
    · rw [List.mem_singleton.1 hx]; exact h1)
  exact ⟨rfl, _, P.1, P.2⟩
theorem own_full {w : World} {base g n : Nat} {e : TypeId} {xs : List Value} (h : w.ownsRow base e 1 (.slice (some ⟨g, 0, none⟩) n n) n xs) : w.heap[g]? = some (.cells xs.toArray e) := by
  obtain ⟨hl, ⟨he, _⟩ | ⟨g', cap', cur, he, h2, h3, h4, h5, h6, h7⟩⟩ := h
  · cases he
  · cases he
    rw [List.take_of_length_le (by rw [Array.length_toList, h6]; exact Nat.le_refl _)] at h7
    rw [← h7]; exact h3
theorem own_of_full {w : World} {base g n : Nat} {l : List ByteArray} (hl : l.length = n) (hb : base ≤ g) (hn : n ≤ maxLen) (h : w.heap[g]? = some (.cells (scells l).toArray 9)) : w.ownsRow base 9 1 (.slice (some ⟨g, 0, none⟩) n n) n (scells l) := by
  have e : (scells l).length = n := by unfold scells; rw [List.length_map, hl]
  exact ⟨by rw [e]; omega, .inr ⟨g, n, (scells l).toArray, rfl, hb, h, Nat.le_refl _, hn, by simp [e], by rw [List.take_of_length_le (by simp [e])]⟩⟩
theorem str_one : (Tryd.prog.info? 9).map (·.size) = some 1 := by kernel_rfl
theorem copy_pos {w w1 : World} {B g : Nat} {v : Value} {ao : Option Addr} {n cap : Nat} {l : List ByteArray} (hv : v = .slice ao n cap) (h : w.ownsRow B 9 1 v n (scells l)) (hb : Below w.heap.size w w1) : 0 < (scells l).length → (some ⟨g, 0, none⟩ : Option Addr) = some ⟨g, 0, none⟩ ∧ ∃ ad, ao = some ad ∧ ∀ j x, (scells l)[j]? = some x → w1.cell? (ad.add j) = some x := by
  intro hp
  subst hv
  have hn : 0 < n := by have := h.1; omega
  have h2 := own_below h hb
  obtain ⟨g', cap', e, _⟩ := h.form hn
  injection e with e1 _ e3
  subst e1 e3
  exact ⟨rfl, _, rfl, h2.cells rfl⟩
theorem own_fit {w : World} {base n : Nat} {e : TypeId} {v : Value} {xs cs : List Value} (h : w.ownsRow base e 1 v n xs) (hl : cs.length = n) : 0 + cs.length ≤ xs.length := by have := h.1; omega
theorem splice_all (xs cs : List Value) (h : cs.length = xs.length) : splice xs 0 cs = cs := by
  unfold splice
  rw [List.take_zero, List.nil_append, List.drop_eq_nil_of_le (by omega), List.append_nil]
set_option maxHeartbeats 2000000 in
theorem records_s (B b d : Nat) (l : List ByteArray) (v : Value) (w : World) (h : JA w B b l d v) :
    Calls Tryd.prog 18 #[.pointer (some ⟨b, 0, none⟩)] w fun e w' => ∃ v', e = .returned v' ∧ w'.ownsRow w.heap.size 9 1 v' l.length (scells l) ∧ Below w.heap.size w w' := by
  obtain ⟨c0, c1, c2, f1, f2⟩ := h.flat
  have H := Lib.hid h
  have HM := Lib.hid (made_j h)
  have hcn := h.cnt
  obtain ⟨ao, cap, hv, hs⟩ := strs_own h.row rfl
  subst hv
  have HS := Lib.hid hs
  have HOw := Lib.hid h.row
  clear h hs
  obtain ⟨i0, hi0, hz0, hz1, hz2⟩ := info_parts info_string
  have HL := Lib.hid (show (scells l).length = l.length from List.length_map ..)
  have HE1 := Lib.hid (show (scells l).length = Nat.min l.length l.length from by rw [HL.out]; exact (Nat.min_self _).symm)
  have HE2 := Lib.hid (show ∀ y ∈ scells l, y.oneCell' = true from fun y hy => by obtain ⟨z, _, rfl⟩ := List.mem_map.1 hy; rfl)
  go_enter Tryd.func18, Tryd.ntmps18
  go_wp2_with fail
  refine HM.out.mono ?_
  rintro e w' ⟨rfl, rfl⟩
  go_wp2_with (first | (at_make; go_loud (refine wpList_make_full _ rfl _ _ 23 rfl w.heap.size 9 i0 _ 1 Tryd.underlying23 hi0 hz0 hz1 .i64 .i64 (l.length : Int) (l.length : Int) l.length rfl rfl rfl rfl (by rw [hz2]; omega) (by unfold maxLen; omega) (Nat.le_refl _) ?_); intro w1 hown hg; have HG := Lib.hid (show Below w.heap.size w w1 from (Below.refl _ _).grown hg (Nat.le_refl _) (fun k hk => by cases hk)); have d1 : w1.cell? ⟨b, 1, none⟩ = some (.slice ao l.length cap) := (H.out.step HG.out).flat.2.1; have HOwn := Lib.hid hown; have hfull := Lib.hid (own_full HOwn.out); clear hown hg) | (refine wpList_copy_splice rfl (.tmp 13) (.tmp 17) 23 23 rfl 9 Tryd.underlying23 str_one (some ⟨w.heap.size, 0, none⟩) ao l.length l.length l.length cap rfl rfl w.heap.size 0 _ 9 hfull.out (scells l) ?_ ?_ ?_ ?_ w.heap.size w HG.out (Nat.le_refl _) ?_; exact HE1.out; exact copy_pos rfl HOw.out HG.out; exact own_fit HOwn.out HL.out; exact HE2.out; intro w4 hg4 hb4))
  go_ret
  have hg5 := hg4.out
  rw [splice_all _ _ (by have := HOwn.out.1; rw [this]; unfold scells; rw [List.length_map]; omega)] at hg5
  exact ⟨_, rfl, own_of_full rfl (Nat.le_refl _) (by unfold maxLen; omega) hg5, hb4⟩

end Go.Proofs.YtafecnaeoeanmaaDoor
