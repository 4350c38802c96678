/-
  Contracts of the specification's has and Insert. Insert at an ascending list without doubles. No condition beyond sizes.
-/
import Derived.Test.YtminodinhbcgnaaDoorAttName
import Derived.Test.YtminodinhbcgnaaDoorSchStrs
set_option maxRecDepth 100000
set_option linter.unusedVariables false
set_option linter.unusedSimpArgs false
set_option linter.unnecessarySimpa false
namespace Go.Proofs.YtminodinhbcgnaaDoor
open Go.RowKit Go.PlainAid

theorem str_eq (a b : ByteArray) : (a.toList == b.toList) = decide (a = b) := by
  rw [Lib.toList_data, Lib.toList_data, Bool.eq_iff_iff, beq_iff_eq, decide_eq_true_eq]
  exact ⟨fun h => by rw [← Lib.mk_data a, ← Lib.mk_data b, h], fun h => by rw [h]⟩
theorem str_ne (a b : ByteArray) : (a.toList != b.toList) = decide (a ≠ b) := by
  rw [bne, str_eq]; by_cases h : a = b <;> simp [h]
theorem str_geq (t : TypeId) (a b : ByteArray) : binOp .geq t (.string a) (.string b) = pure (.bool !(Op.bytesLess a.toList b.toList)) := by simp [binOp, Op.stringOp]
theorem less_cmp : ∀ a b : List UInt8, Op.bytesLess a b = decide (Lib.compareBytes a b < 0)
  | [], [] => by simp [Op.bytesLess, Lib.compareBytes]
  | [], _ :: _ => by simp [Op.bytesLess, Lib.compareBytes]
  | _ :: _, [] => by simp [Op.bytesLess, Lib.compareBytes]
  | x :: a, y :: b => by
    unfold Op.bytesLess Lib.compareBytes
    rw [less_cmp a b]
    by_cases h : x < y
    · simp [h]
    · by_cases g : y < x
      · have hne : ¬ x = y := fun e => by subst e; exact h g
        simp [h, g, hne]
      · have he : x = y := by
          have h1 : ¬ x.toNat < y.toNat := fun k => h (UInt8.lt_iff_toNat_lt.2 k)
          have h2 : ¬ y.toNat < x.toNat := fun k => g (UInt8.lt_iff_toNat_lt.2 k)
          exact UInt8.toNat_inj.1 (by omega)
        simp [h, g, he]
theorem str_less (a b : ByteArray) : Op.bytesLess a.toList b.toList = decide (cmpS a b < 0) := by
  rw [less_cmp, Lib.toList_data, Lib.toList_data]; rfl

def memB (l : List ByteArray) (s : ByteArray) : Bool := l.any fun x => decide (x = s)
theorem memB_iff {l : List ByteArray} {s : ByteArray} : memB l s = true ↔ s ∈ l := by
  unfold memB
  rw [List.any_eq_true]
  exact ⟨fun ⟨x, h, e⟩ => by rw [← of_decide_eq_true e]; exact h, fun h => ⟨s, h, decide_eq_true rfl⟩⟩

/-! ### Insert -/
theorem insS_all {s : ByteArray} (r : List ByteArray) : ∀ (a : List ByteArray), (∀ x ∈ a, cmpS x s < 0) → insS (a ++ r) s = a ++ insS r s
  | [], _ => rfl
  | x :: a, h => by
    rw [List.cons_append]
    show (if cmpS x s < 0 then x :: insS (a ++ r) s else _) = _
    rw [if_pos (h x (List.mem_cons_self ..)), insS_all r a (fun y hy => h y (List.mem_cons_of_mem _ hy))]; rfl
theorem insS_done {s y : ByteArray} : ∀ (a : List ByteArray), (∃ x ∈ a, ¬ cmpS x s < 0) → insS (a ++ [y]) s = insS a s ++ [y]
  | [], h => by obtain ⟨x, hx, _⟩ := h; exact absurd hx List.not_mem_nil
  | x :: a, h => by
    rw [List.cons_append]
    show (if cmpS x s < 0 then x :: insS (a ++ [y]) s else if x = s then x :: (a ++ [y]) else s :: x :: (a ++ [y])) = (if cmpS x s < 0 then x :: insS a s else if x = s then x :: a else s :: x :: a) ++ [y]
    by_cases hx : cmpS x s < 0
    · rw [if_pos hx, if_pos hx, insS_done a]
      · rfl
      · obtain ⟨z, hz, hn⟩ := h
        rcases List.mem_cons.1 hz with k | k
        · exact absurd (k ▸ hx) hn
        · exact ⟨z, k, hn⟩
    · rw [if_neg hx, if_neg hx]
      by_cases e : x = s
      · rw [if_pos e, if_pos e]; rfl
      · rw [if_neg e, if_neg e]; rfl
theorem insS_one {s y : ByteArray} (h : ¬ cmpS y s < 0) : insS [y] s = if y = s then [s] else [s, y] := by
  show (if cmpS y s < 0 then _ else if y = s then [y] else [s, y]) = _
  rw [if_neg h]
  by_cases e : y = s
  · rw [if_pos e, if_pos e, e]
  · rw [if_neg e, if_neg e]
theorem take_snoc (l : List ByteArray) (k : Nat) (h : k < l.length) : l.take (k + 1) = l.take k ++ [partAt l k] := by
  unfold partAt
  rw [List.take_succ_eq_append_getElem h, List.getD_eq_getElem?_getD, List.getElem?_eq_getElem h]; rfl
theorem part_mem (l : List ByteArray) (k : Nat) (h : k < l.length) : partAt l k ∈ l := by
  unfold partAt
  rw [List.getD_eq_getElem?_getD, List.getElem?_eq_getElem h]; exact List.getElem_mem h
/-- what Insert has written behind k elements -/
def insAt (l : List ByteArray) (s : ByteArray) (k : Nat) (dn : Bool) (o : List ByteArray) : Prop :=
  (dn = false ∧ o = l.take k ∧ ∀ x ∈ l.take k, cmpS x s < 0) ∨ (dn = true ∧ o = insS (l.take k) s ∧ ∃ x ∈ l.take k, ¬ cmpS x s < 0)
theorem insAt_zero (l : List ByteArray) (s : ByteArray) : insAt l s 0 false [] := .inl ⟨rfl, by simp, by simp⟩
theorem insAt_len {l : List ByteArray} {s : ByteArray} {k : Nat} {o : List ByteArray} (h : insAt l s k false o) : o.length ≤ k := by
  rcases h with ⟨_, e, _⟩ | ⟨e, _⟩
  · rw [e, List.length_take]; omega
  · cases e
theorem insAt_low {l : List ByteArray} {s : ByteArray} {k : Nat} {o : List ByteArray} (h : insAt l s k false o) (hk : k < l.length) (hc : cmpS (partAt l k) s < 0) : insAt l s (k + 1) false (o ++ [partAt l k]) := by
  rcases h with ⟨_, e, ha⟩ | ⟨e, _⟩
  · refine .inl ⟨rfl, by rw [e, take_snoc l k hk], fun x hx => ?_⟩
    rw [take_snoc l k hk] at hx
    rcases List.mem_append.1 hx with j | j
    · exact ha x j
    · rw [List.mem_singleton.1 j]; exact hc
  · cases e
theorem insAt_same {l : List ByteArray} {s : ByteArray} {k : Nat} {o : List ByteArray} (h : insAt l s k false o) (hk : k < l.length) (hc : partAt l k = s) : insAt l s (k + 1) true (o ++ [s]) := by
  have hn : ¬ cmpS (partAt l k) s < 0 := by rw [hc]; exact cs_irrefl s
  rcases h with ⟨_, e, ha⟩ | ⟨e, _⟩
  · refine .inr ⟨rfl, ?_, partAt l k, by rw [take_snoc l k hk]; simp, hn⟩
    rw [take_snoc l k hk, insS_all _ _ ha, insS_one hn, if_pos hc, e]
  · cases e
theorem insAt_new {l : List ByteArray} {s : ByteArray} {k : Nat} {o : List ByteArray} (h : insAt l s k false o) (hk : k < l.length) (hn : ¬ cmpS (partAt l k) s < 0) (hc : ¬ partAt l k = s) : insAt l s (k + 1) true ((o ++ [s]) ++ [partAt l k]) := by
  rcases h with ⟨_, e, ha⟩ | ⟨e, _⟩
  · refine .inr ⟨rfl, ?_, partAt l k, by rw [take_snoc l k hk]; simp, hn⟩
    rw [take_snoc l k hk, insS_all _ _ ha, insS_one hn, if_neg hc, e]; simp
  · cases e
theorem insAt_more {l : List ByteArray} {s : ByteArray} {k : Nat} {o : List ByteArray} (ha : Asc l) (h : insAt l s k true o) (hk : k < l.length) : partAt l k ≠ s ∧ insAt l s (k + 1) true (o ++ [partAt l k]) := by
  rcases h with ⟨e, _⟩ | ⟨_, e, x, hx, hn⟩
  · cases e
  · have hlt : cmpS x (partAt l k) < 0 := by
      have h1 : Asc (l.take (k + 1)) := List.Pairwise.sublist (List.take_sublist _ _) ha
      rw [take_snoc l k hk] at h1
      exact (List.pairwise_append.1 h1).2.2 x hx _ (List.mem_singleton.2 rfl)
    refine ⟨fun e' => hn (e' ▸ hlt), .inr ⟨rfl, by rw [take_snoc l k hk, insS_done _ ⟨x, hx, hn⟩, e], x, by rw [take_snoc l k hk]; exact List.mem_append_left _ hx, hn⟩⟩
theorem insAt_end {l : List ByteArray} {s : ByteArray} {dn : Bool} {o : List ByteArray} (h : insAt l s l.length dn o) : insS l s = if dn then o else o ++ [s] := by
  rcases h with ⟨rfl, e, ha⟩ | ⟨rfl, e, _⟩
  · rw [List.take_length] at e ha
    have := insS_all (s := s) [] l ha
    rw [List.append_nil] at this
    rw [this, e]; rfl
  · rw [List.take_length] at e
    rw [← e]; rfl

set_option maxRecDepth 100000 in
set_option maxHeartbeats 4000000 in
theorem insert_s (ao : Option Addr) (n cap : Nat) (l : List ByteArray) (s : ByteArray) (w : World) (h : StrsAt w ao n cap l) (hn : n ≤ 1100000) (hA : Asc l) :
    Calls Tryd.prog 38 #[.slice ao n cap, .string s] w fun e w' => ∃ v, e = .returned v ∧ w'.ownsRow w.heap.size 9 1 v (insS l s).length (scells (insS l s)) ∧ Below w.heap.size w w' := by
  obtain ⟨h1, h2, h3, h4⟩ := h
  subst h1
  unfold maxLen at h3
  have H4 := Lib.hid h4; clear h4
  have HA := Lib.hid hA; clear hA
  go_enter Tryd.func38, Tryd.ntmps38
  go_wp2
  go_loopw [5, 6, 7] (fun v dn i wr => ∃ (k : Nat) (d : Bool) (o : List ByteArray), k ≤ l.length ∧ o.length ≤ k + 1 ∧ i = .int .i64 k ∧ dn = .bool d ∧ Hid (insAt l s k d o) ∧ wr.ownsRow w.heap.size 9 1 v o.length (scells o) ∧ Below w.heap.size w wr)
    (fun _ _ i _ => l.length - (intOf i).toNat)
  case atStart => exact ⟨0, false, [], Nat.zero_le _, Nat.zero_le _, rfl, rfl, Lib.hid (insAt_zero l s), World.ownsRow_nil _ _ _ _, Below.refl _ _⟩
  case round =>
    obtain ⟨k, d, o, hk, ho, rfl, rfl, HI, hown, hbl⟩ := hrel
    by_cases hlt : k < l.length
    · obtain ⟨b, off, rfl, hs⟩ := H4.out (by omega)
      have hcell := (hs.below hbl hs.1).2 k hlt
      have hblt := hs.1
      clear hs
      obtain ⟨p, hpe⟩ : ∃ p, partAt l k = p := ⟨_, rfl⟩
      have HIA := Lib.hid (fun h => insAt_low (l := l) (s := s) (k := k) (o := o) h hlt)
      have HIB := Lib.hid (fun h => insAt_same (l := l) (s := s) (k := k) (o := o) h hlt)
      have HIC := Lib.hid (fun h => insAt_new (l := l) (s := s) (k := k) (o := o) h hlt)
      have HID := Lib.hid (fun h => insAt_more (l := l) (s := s) (k := k) (o := o) HA.out h hlt)
      rw [hpe] at hcell HIA HIB HIC HID
      clear hpe
      have d1 : (k : Int) < (l.length : Int) := by omega
      have G := str_geq 9 p s
      rw [str_less] at G
      cases d
      · by_cases hc : cmpS p s < 0
        · rw [decide_eq_true hc] at G
          have q1 : (p.toList == s.toList) = false := by rw [str_eq]; exact decide_eq_false (cs_ne hc)
          have q2 : (p.toList != s.toList) = true := by unfold bne; rw [q1]; rfl
          have HX := Lib.hid (HIA.out HI.out hc)
          clear hc
          go_wp2_with (at_builtin; go_must (refine push_str _ hown (.tmp 34) (.tmp 39) p ?_ ?_ ?_ ?_ ?_ ?_ ?_; exact rfl; exact rfl; exact rfl; exact rfl; omega; exact hbl.size; intro v3 w3 hown3 hb3))
          go_roundw
          case rel => exact ⟨k + 1, false, o ++ [p], by omega, by simp; omega, by go_num, rfl, HX, by rw [scells_snoc, List.length_append]; exact hown3, hbl.trans hb3⟩
          case measure => simp [intOf]; omega
        · rw [decide_eq_false hc] at G
          by_cases he : p = s
          · have HX := Lib.hid (HIB.out HI.out he)
            clear hc HIA HIB HIC HID
            have q1 : (p.toList == s.toList) = true := by rw [str_eq]; exact decide_eq_true he
            have q2 : (p.toList != s.toList) = false := by unfold bne; rw [q1]; rfl
            clear he
            go_wp2_with (at_builtin; go_must (refine push_str _ hown (.tmp 24) (.tmp 26) s ?_ ?_ ?_ ?_ ?_ ?_ ?_; exact rfl; exact rfl; exact rfl; exact rfl; omega; exact hbl.size; intro v3 w3 hown3 hb3; have hcell3 := (hb3.cell (p := ⟨b, off + k, none⟩) (by have := hbl.size; omega)).trans hcell))
            go_roundw
            case rel => exact ⟨k + 1, true, o ++ [s], by omega, by simp; omega, by go_num, rfl, HX, by rw [scells_snoc, List.length_append]; exact hown3, hbl.trans hb3⟩
            case measure => simp [intOf]; omega
          · have q1 : (p.toList == s.toList) = false := by rw [str_eq]; exact decide_eq_false he
            have q2 : (p.toList != s.toList) = true := by unfold bne; rw [q1]; rfl
            have HX := Lib.hid (HIC.out HI.out hc he)
            have hok := insAt_len HI.out
            clear hc he
            have tok : True := trivial
            go_wp2_with (first
              | (at_builtin; have _t := tok; go_must (refine push_str _ hown (.tmp 24) (.tmp 26) s ?_ ?_ ?_ ?_ ?_ ?_ ?_; exact rfl; exact rfl; exact rfl; exact rfl; omega; exact hbl.size; intro v3 w3 hown3 hb3; clear tok; have hcell3 := (hb3.cell (p := ⟨b, off + k, none⟩) (by have := hbl.size; omega)).trans hcell))
              | (at_builtin; go_must (refine push_str _ hown3 (.tmp 34) (.tmp 39) p ?_ ?_ ?_ ?_ ?_ ?_ ?_; exact rfl; exact rfl; exact rfl; exact rfl; omega; exact (hbl.trans hb3).size; intro v4 w4 hown4 hb4)))
            go_roundw
            case rel => exact ⟨k + 1, true, (o ++ [s]) ++ [p], by omega, by simp; omega, by go_num, rfl, HX, by rw [scells_snoc, scells_snoc, List.length_append, List.length_append]; exact hown4, (hbl.trans hb3).trans hb4⟩
            case measure => simp [intOf]; omega
      · obtain ⟨hne, hx⟩ := HID.out HI.out
        have HX := Lib.hid hx
        have q1 : (p.toList == s.toList) = false := by rw [str_eq]; exact decide_eq_false hne
        have q2 : (p.toList != s.toList) = true := by unfold bne; rw [q1]; rfl
        clear hne hx G
        go_wp2_with (at_builtin; go_must (refine push_str _ hown (.tmp 34) (.tmp 39) p ?_ ?_ ?_ ?_ ?_ ?_ ?_; exact rfl; exact rfl; exact rfl; exact rfl; omega; exact hbl.size; intro v3 w3 hown3 hb3))
        go_roundw
        case rel => exact ⟨k + 1, true, o ++ [p], by omega, by simp; omega, by go_num, rfl, HX, by rw [scells_snoc, List.length_append]; exact hown3, hbl.trans hb3⟩
        case measure => simp [intOf]; omega
    · have hkl : k = l.length := by omega
      subst hkl
      have HE := Lib.hid (insAt_end HI.out)
      cases d
      · go_wp2_with (at_builtin; go_must (refine push_str _ hown (.tmp 43) (.tmp 45) s ?_ ?_ ?_ ?_ ?_ ?_ ?_; exact rfl; exact rfl; exact rfl; exact rfl; omega; exact hbl.size; intro v3 w3 hown3 hb3))
        go_ret
        have he : insS l s = o ++ [s] := HE.out
        exact ⟨v3, rfl, by rw [he, scells_snoc, List.length_append]; exact hown3, hbl.trans hb3⟩
      · go_wp2_with fail
        go_ret
        have he : insS l s = o := HE.out
        exact ⟨_, rfl, by rw [he]; exact hown, hbl⟩

end Go.Proofs.YtminodinhbcgnaaDoor
