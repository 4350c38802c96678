/-
  Contracts of slices.Index and slices.Concat at strings, of Redeem on both sides. Condition: at most 1000 strings.
-/
import Derived.Test.YtmkcojgdhdmnnaaDoorOtpE
import Derived.Lib.AppendZeros
import Derived.ArgAppend
set_option maxRecDepth 100000
set_option linter.unusedVariables false
set_option linter.unusedSimpArgs false
set_option linter.unnecessarySimpa false
namespace Go.Proofs.YtmkcojgdhdmnnaaDoor
open Go.RowKit Go.PlainAid

theorem part_get {l : List ByteArray} {j : Nat} (h : j < l.length) : partAt l j = l[j] := by
  unfold partAt; rw [List.getD_eq_getElem?_getD, List.getElem?_eq_getElem h]; rfl
/-- the place of the first c, or the length -/
def ixN (c : ByteArray) : List ByteArray → Nat
  | [] => 0
  | x :: l => if x = c then 0 else ixN c l + 1
theorem ixN_eq {c : ByteArray} : ∀ {l : List ByteArray} {k : Nat} (h : k < l.length), l[k] = c → (∀ j (hj : j < k), l[j] ≠ c) → ixN c l = k
  | x :: l, 0, h, e, hn => by
    have e : x = c := e
    unfold ixN; rw [if_pos e]
  | x :: l, k + 1, h, e, hn => by
    have h0 : x ≠ c := hn 0 (by omega)
    unfold ixN
    rw [if_neg h0, ixN_eq (l := l) (k := k) (by simpa using h) e (fun j hj => hn (j + 1) (by omega))]
theorem has_at {l : List ByteArray} {c : ByteArray} {k : Nat} (h : k < l.length) (e : partAt l k = c) : hasB l c = true := by
  rw [hasB_iff, ← e, part_get h]; exact List.getElem_mem h
theorem has_no {l : List ByteArray} {c : ByteArray} (h : ∀ j, j < l.length → partAt l j ≠ c) : hasB l c = false := by
  cases hh : hasB l c
  · rfl
  · obtain ⟨j, hj, e⟩ := List.mem_iff_getElem.1 (hasB_iff.1 hh)
    exact absurd (by rw [part_get hj]; exact e) (h j hj)
theorem redR_at {l : List ByteArray} {c : ByteArray} {k : Nat} (h : k < l.length) (e : partAt l k = c) (hn : ∀ j, j < k → partAt l j ≠ c) : redR l c = (l.take k ++ l.drop (k + 1), 0) := by
  unfold redR
  rw [has_at h e, if_pos rfl, wthL_at h (by rw [← part_get h]; exact e) (fun j hj => by rw [← part_get (by omega)]; exact hn j hj)]
theorem redR_no {l : List ByteArray} {c : ByteArray} (h : ∀ j, j < l.length → partAt l j ≠ c) : redR l c = ([], 6) := by
  unfold redR
  rw [has_no h, if_neg (by decide)]
/-- where c stands: at k first, or nowhere -/
def ixR (l : List ByteArray) (c : ByteArray) : Int := if hasB l c then (ixN c l : Int) else -1
set_option maxHeartbeats 2000000 in
theorem index_k (ao : Option Addr) (n cap : Nat) (l : List ByteArray) (c : ByteArray) (r : Int) (w : World) (h : StrsAt w ao n cap l) (hx : ixR l c = r) :
    Calls Tryd.prog 43 #[.slice ao n cap, .string c] w fun e w' => e = .returned (.int .i64 r) ∧ w = w' := by
  have H := Lib.hid h
  obtain ⟨h1, h2, h3, _⟩ := h
  subst h1
  unfold maxLen at h3
  have HX := Lib.hid hx
  clear hx
  go_enter Tryd.func43, Tryd.ntmps43
  go_wp2_with fail
  go_loopw [8] (fun i wr => ∃ k : Nat, k ≤ l.length ∧ i = .int .i64 k ∧ Hid (∀ j, j < k → partAt l j ≠ c) ∧ wr = w) (fun i _ => l.length - (intOf i).toNat)
  case atStart => exact ⟨0, Nat.zero_le _, rfl, Lib.hid fun j hj => absurd hj (Nat.not_lt_zero _), rfl⟩
  case round =>
    obtain ⟨k, hk, rfl, HN, rfl⟩ := hrel
    by_cases hlt : k < l.length
    · obtain ⟨b, off, rfl, hbw, hcells⟩ := H.out.at (by omega)
      have hcell := hcells _ (Below.refl _ _) k hlt
      clear hcells
      obtain ⟨p, hp⟩ : ∃ p, partAt l k = p := ⟨_, rfl⟩
      rw [hp] at hcell
      by_cases e : p = c
      · have d1 : (c.toList == p.toList) = true := by rw [str_eq]; exact decide_eq_true e.symm
        have HE := Lib.hid (show r = (k : Int) by
          rw [← HX.out]; unfold ixR
          rw [has_at hlt (hp.trans e), if_pos rfl, ixN_eq hlt (by rw [← part_get hlt]; exact hp.trans e) (fun j hj => by rw [← part_get (by omega)]; exact HN.out j hj)])
        clear e hp
        go_wp2_with fail
        go_ret
        exact ⟨by rw [HE.out]; rfl, rfl⟩
      · have d1 : (c.toList == p.toList) = false := by rw [str_eq]; exact decide_eq_false (fun h => e h.symm)
        have HN1 : Hid (∀ j, j < k + 1 → partAt l j ≠ c) := Lib.hid fun j hj => if q : j = k then by rw [q, hp]; exact e else HN.out j (by omega)
        clear e hp
        go_wp2_with fail
        go_roundw
        case rel => exact ⟨k + 1, by omega, by go_num, HN1, (by first | trivial | rfl)⟩
        case measure => simp [intOf]; omega
    · obtain rfl : k = l.length := by omega
      have HE := Lib.hid (show r = -1 by
        rw [← HX.out]; unfold ixR
        rw [has_no HN.out, if_neg (by decide)])
      go_wp2_with fail
      go_ret
      exact ⟨by rw [HE.out]; rfl, rfl⟩

/-! ### Grow, Concat -/
theorem zeroS_size (k : Nat) : (Builtin.zeroCells (Value.string ⟨#[]⟩).cells k).size = k * 1 := by
  simp [Builtin.zeroCells, Value.cells]
theorem growN_run (w : World) (n : Nat) (h0 : 0 < n) (hn : n ≤ 1000000) : ∃ G W1, (∀ ty, (Builtin.append_ #[35, 3] ty #[.slice none 0 0, .int .i64 (n : Int)]).run Tryd.prog w = .ok (.slice (some ⟨w.heap.size, 0, none⟩) n G) W1) ∧
    n ≤ G ∧ G ≤ maxLen ∧ W1.ownsRow w.heap.size 9 1 (.slice (some ⟨w.heap.size, 0, none⟩) 0 G) 0 [] ∧ Below w.heap.size w W1 := by
  obtain ⟨i0, hi0, hz0, hz1, hz2⟩ := info_parts info_string
  have hrun := fun ty => Lib.run_append_nil_zeros w 35 3 ty 9 i0 _ .i64 .i64 Tryd.underlying35 Tryd.underlying3 hi0 hz0 n h0 (by rw [hz1]; decide) (by omega) (by rw [hz2]; omega)
  refine ⟨grownCap w n 0 9, _, hrun, grownCap_ge w _ _ _, grownCap_le_maxLen w _ _ _ (by unfold maxLen; omega), ?_, ((Below.refl _ w).drew).alloc (Nat.le_refl _) _⟩
  have hg := grownCap_ge w n 0 9
  exact World.ownsRow_made w.drew _ _ (Nat.le_refl _) (grownCap_le_maxLen w _ _ _ (by unfold maxLen; omega)) (by rw [Array.size_append, zeroS_size, zeroS_size]; omega)
set_option maxHeartbeats 4000000 in
theorem grow_s (n : Nat) (w : World) (hn : n ≤ 1000000) :
    Calls Tryd.prog 55 #[.slice none 0 0, .int .i64 n] w fun e w' => ∃ v, e = .returned v ∧ w'.ownsRow w.heap.size 9 1 v 0 [] ∧ Below w.heap.size w w' := by
  rcases Nat.eq_zero_or_pos n with h0 | h0
  · subst h0
    go_enter Tryd.func55, Tryd.ntmps55
    go_wp2
    go_ret
    exact ⟨_, rfl, World.ownsRow_nil _ _ _ _, Below.refl _ _⟩
  · obtain ⟨G, W1, hrun, hG1, hG2, hown, hb⟩ := growN_run w n h0 hn
    unfold maxLen at hG2
    have d0 : (0 : Int) < (n : Int) := by omega
    have d1 : ¬ (n : Int) < 0 := by omega
    have HR := Lib.hid hrun
    clear hrun
    go_enter Tryd.func55, Tryd.ntmps55
    go_wp2_with (at_builtin; refine Lib.wpList_append_run _ rfl _ _ _ _ rfl _ _ rfl rfl _ _ (HR.out _) ?_)
    go_ret
    exact ⟨_, rfl, hown, hb⟩
theorem strs_cells {w : World} {ad : Addr} {n cap : Nat} {ps : List ByteArray} (h : StrsAt w (some ad) n cap ps) : ∀ j u, (scells ps)[j]? = some u → w.cell? (ad.add j) = some u := by
  intro j u hj
  have hl : j < ps.length := by
    rcases Nat.lt_or_ge j ps.length with k | k
    · exact k
    · rw [List.getElem?_eq_none (by unfold scells; rw [List.length_map]; exact k)] at hj; cases hj
  obtain ⟨b, off, e, hi⟩ := h.2.2.2 (by rw [← h.1]; omega)
  cases e
  rw [WideShapes.add_plain]
  have := hi.2 j hl
  unfold scells at hj
  rw [List.getElem?_map, List.getElem?_eq_getElem hl] at hj
  rw [this, part_get hl]
  exact hj
/-- 'l = append(l, xs...)' where l is the call's own -/
theorem app_strs {ops : Array Oper} {rest : List Oper} {o : Oper} {a : Act} {Q : Exit → Act → World → Prop} (wr : World) {base : Nat} {v : Value} {n : Nat} {xs : List Value} (hown : wr.ownsRow base 9 1 v n xs) (s x : Operand)
    (ad : Addr) (m c : Nat) (news : List ByteArray) (hgd : o.guard = none)
    (ho : o.op = .call { callee := .builtin .append, args := #[s, x], argTypes := #[35, 35] })
    (hs : a.eval s = v) (hx : a.eval x = .slice (some ad) m c) (hw : StrsAt wr (some ad) m c news) (hn : n + m ≤ 1000000000) (hbase : base ≤ wr.heap.size)
    (h : ∀ v' w', w'.ownsRow base 9 1 v' (n + m) (xs ++ scells news) → Below base wr w' → wpList Tryd.prog ops Q rest (a.put o.dst v') w') :
    wpList Tryd.prog ops Q (o :: rest) a wr := by
  obtain ⟨i0, hi, hz0, hz1, hz2⟩ := info_parts info_string
  have w1 := hw.1
  refine wpList_append_own _ hgd s x 35 ho base 9 i0 (.string ⟨#[]⟩) 1 16 Tryd.underlying35 hi hz0 hz1 hz2 rfl (by decide) v n xs hs hown ad m c (scells news) hx (by unfold scells; rw [List.length_map, w1, Nat.mul_one]) (strs_cells hw)
    (by intro u hu; unfold scells at hu; obtain ⟨q, _, rfl⟩ := List.mem_map.1 hu; rfl) (by unfold maxLen; omega) (by omega) hbase ?_
  intro v' w' h1 h2 _
  exact h v' w' h1 ((Below.refl base wr).grown h2 hbase (fun k hk => (hown.lt k hk).1))
theorem scells_app (l m : List ByteArray) : scells (l ++ m) = scells l ++ scells m := by simp [scells]
def twS (a b : Addr) (n cap m dap : Nat) : Obj := .cells #[.slice (some a) n cap, .slice (some b) m dap] 35
set_option maxHeartbeats 8000000 in
theorem concat_s (g : Nat) (a b : Addr) (n m cap dap : Nat) (l k : List ByteArray) (w : World) (hg : KbC w g (twS a b n cap m dap)) (h : StrsAt w (some a) n cap l) (hk : StrsAt w (some b) m dap k) (hn : n ≤ 400000) (hm : m ≤ 400000) :
    Calls Tryd.prog 44 #[.slice (some ⟨g, 0, none⟩) 2 2] w fun e w' => ∃ xo xc, e = .returned (.slice xo (n + m) xc) ∧ StrsAt w' xo (n + m) xc (l ++ k) ∧ Below w.heap.size w w' := by
  have H := Lib.hid h
  have HK := Lib.hid hk
  have HG := Lib.hid hg
  have HL := Lib.hid (show (l ++ k).length = n + m by rw [List.length_append, h.1, hk.1])
  clear h hk
  have c0 : w.cell? ⟨g, 0, none⟩ = some (.slice (some a) n cap) := hg.cell rfl
  have c1 : w.cell? ⟨g, 1, none⟩ = some (.slice (some b) m dap) := hg.cell rfl
  clear hg
  have e0 : ¬ (n : Int) < 0 := by omega
  have e1 : ¬ (n : Int) + (m : Int) < 0 := by omega
  have HGr := Lib.hid (fun (v : Int) (hv : v = ((n + m : Nat) : Int)) => show Calls Tryd.prog 55 #[.slice none 0 0, .int .i64 v] w _ from hv ▸ grow_s (n + m) w (by omega))
  go_enter Tryd.func44, Tryd.ntmps44
  go_wp2_with fail
  refine wp_loop_rounds 3 ?_
  rw [rounds_succ]
  go_wp2_with fail
  rw [rounds_succ]
  go_wp2_with fail
  rw [rounds_succ]
  go_wp2_with fail
  refine (HGr.out _ (by first | rfl | omega)).mono ?_
  rintro e w1 ⟨v, rfl, hown, hb⟩
  have HB1 := Lib.hid hb
  have HA1 := Lib.hid (H.out.below hb)
  have HK1 := Lib.hid (HK.out.below hb)
  have HG1 := Lib.hid (HG.out.step hb)
  have HO1 := Lib.hid hown
  clear hb hown c0 c1
  have c0 : w1.cell? ⟨g, 0, none⟩ = some (.slice (some a) n cap) := HG1.out.cell rfl
  have c1 : w1.cell? ⟨g, 1, none⟩ = some (.slice (some b) m dap) := HG1.out.cell rfl
  go_wp2_with fail
  refine wp_loop_rounds 3 ?_
  rw [rounds_succ]
  go_wp2_with (at_builtin; refine app_strs w1 HO1.out (.tmp 31) (.tmp 32) a n cap l ?_ ?_ ?_ ?_ ?_ ?_ ?_ ?_; exact rfl; exact rfl; exact rfl; exact rfl; exact HA1.out; omega; exact HB1.out.size; intro v2 w2 hown2 hb2)
  have HB2 := Lib.hid (HB1.out.trans hb2)
  have HO2 := Lib.hid hown2
  have HK2 := Lib.hid (HK.out.below HB2.out)
  have HG2 := Lib.hid (HG.out.step HB2.out)
  clear hb2 hown2 c0 c1
  have c1 : w2.cell? ⟨g, 1, none⟩ = some (.slice (some b) m dap) := HG2.out.cell rfl
  rw [rounds_succ]
  go_wp2_with (at_builtin; refine app_strs w2 HO2.out (.tmp 31) (.tmp 32) b m dap k ?_ ?_ ?_ ?_ ?_ ?_ ?_ ?_; exact rfl; exact rfl; exact rfl; exact rfl; exact HK2.out; omega; exact HB2.out.size; intro v3 w3 hown3 hb3)
  have HB3 := Lib.hid (HB2.out.trans hb3)
  rw [List.nil_append, ← scells_app] at hown3
  obtain ⟨xo, xc, hv3, hat⟩ := strs_own hown3 (by rw [HL.out]; omega)
  rw [hv3]
  have HA3 := Lib.hid hat
  clear hb3 hown3 hat c1 hv3
  rw [rounds_succ]
  go_wp2_with fail
  go_ret
  exact ⟨xo, xc, by first | rfl | (rw [Nat.zero_add]; rfl), by have := HA3.out; rw [Nat.zero_add] at this; exact this, HB3.out⟩
end Go.Proofs.YtmkcojgdhdmnnaaDoor
