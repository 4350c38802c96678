/-
  slices.IndexFunc and slices.DeleteFunc at attributes, with the closure of attrs.Pick. Condition: at most 1000 attributes.
-/
import Derived.Test.YtahpocpagidahaaAttP7
import Derived.Test.YtahpocpagidahaaAttR8
set_option linter.unusedVariables false
set_option linter.unusedSimpArgs false
set_option linter.unnecessarySimpa false
namespace Go.Proofs.Ytahpocpagidahaa
open Go.RowKit Go.PlainAid Go.Maps Go.ChangeMaps

theorem want_mem (ns : List ByteArray) (a : ByteArray) : (decide (0 < ns.length) && !memB (ns.map lowS) a) = !wantB ns a := by
  unfold wantB memB
  rw [List.any_map]
  cases ns with
  | nil => rfl
  | cons x r => simp [Function.comp_def]
/-- what the closure of Pick sees -/
structure Sees (w : World) (bn bm mb N : Nat) (D : DataW Unit) (no : Option Addr) (nn nc : Nat) (ns : List ByteArray) : Prop where
  names : w.cell? ⟨bn, 0, none⟩ = some (.slice no nn nc)
  box : w.cell? ⟨bm, 0, none⟩ = some (.map (some mb))
  set : SetM w mb N D (ns.map lowS)
theorem Sees.kept {w w' : World} {bn bm mb N nn nc : Nat} {D : DataW Unit} {no : Option Addr} {ns : List ByteArray} {g : Nat} (h : Sees w bn bm mb N D no nn nc ns) (hg : w.grownBy w' (some g)) (h1 : bn ≠ g) (h2 : bm ≠ g) (h3 : mb ≠ g) : Sees w' bn bm mb N D no nn nc ns :=
  ⟨hg.cell h.names (fun e => h1 (Option.some.inj e)), hg.cell h.box (fun e => h2 (Option.some.inj e)), h.set.kept hg (fun e => h3 (Option.some.inj e))⟩
theorem Sees.below {w w' : World} {bn bm mb N nn nc : Nat} {D : DataW Unit} {no : Option Addr} {ns : List ByteArray} (h : Sees w bn bm mb N D no nn nc ns) (hb : Below w.heap.size w w') : Sees w' bn bm mb N D no nn nc ns :=
  ⟨cell_later hb h.names, cell_later hb h.box, h.set.below hb⟩
set_option maxRecDepth 100000 in
set_option maxHeartbeats 2000000 in
theorem pick1_s (p : ByteArray) (vo : Option Addr) (vn vc : Nat) (w : World) (bn bm mb N : Nat) (D : DataW Unit) (no : Option Addr) (nn nc : Nat) (ns : List ByteArray) (h : Sees w bn bm mb N D no nn nc ns) (hn : ns.length = nn) (hp : p.size ≤ maxLen) :
    Calls Try.prog 53 #[.agg #[.string p, .slice vo vn vc], .pointer (some ⟨bn, 0, none⟩), .pointer (some ⟨bm, 0, none⟩)] w fun e w' => e = .returned (.bool (!wantB ns p)) ∧ Below w.heap.size w w' := by
  have hb1 : Below w.heap.size w (w.alloc (.cells #[.string p, .slice vo vn vc] 42)) := (Below.refl _ w).alloc (Nat.le_refl _) _
  obtain ⟨x0, x1⟩ := (abox_new w p (.slice vo vn vc)).cells
  have S1 := h.below hb1
  have c1 := S1.names
  have c2 := S1.box
  have hlook := S1.set.look p hp
  have HW := Lib.hid (want_mem ns p)
  rw [hn] at HW
  obtain ⟨t, ht⟩ : ∃ x, memB (ns.map lowS) p = x := ⟨_, rfl⟩
  rw [ht] at hlook HW
  clear S1 h ht
  by_cases h0 : 0 < nn
  · have d1 : decide ((0 : Int) < (nn : Int)) = true := decide_eq_true (by omega)
    have HW2 := Lib.hid (show (!wantB ns p) = !t by rw [← HW.out, decide_eq_true h0, Bool.true_and])
    go_enter Try.func53, Try.ntmps53
    go_wp2_with fail
    go_ret
    exact ⟨by rw [HW2.out]; rfl, hb1⟩
  · have d1 : decide ((0 : Int) < (nn : Int)) = false := decide_eq_false (by omega)
    have HW2 := Lib.hid (show (!wantB ns p) = false by rw [← HW.out, decide_eq_false h0]; rfl)
    go_enter Try.func53, Try.ntmps53
    go_wp2_with fail
    go_ret
    exact ⟨by rw [HW2.out]; rfl, hb1⟩
set_option maxRecDepth 100000 in
set_option maxHeartbeats 4000000 in
theorem idx_s (ao : Option Addr) (n cap : Nat) (T : List Tr) (w : World) (bn bm mb N : Nat) (D : DataW Unit) (no : Option Addr) (nn nc : Nat) (ns : List ByteArray) (hT : TsAt w ao n cap T) (hK : TOk w T) (h : Sees w bn bm mb N D no nn nc ns) (hn : ns.length = nn) (hS : ∀ t ∈ T, t.1.size ≤ maxLen) :
    Calls Try.prog 76 #[.slice ao n cap, .func (.func 53) #[] #[.pointer (some ⟨bn, 0, none⟩), .pointer (some ⟨bm, 0, none⟩)]] w fun e w' =>
      ∃ k : Nat, k ≤ n ∧ (∀ j, j < k → wantB ns (trD T j).1 = true) ∧ (k < n → wantB ns (trD T k).1 = false) ∧ e = .returned (.int .i64 (if k < n then (k : Int) else -1)) ∧ Below w.heap.size w w' := by
  have hTl : T.length = n := hT.1
  have hnb : n ≤ 9223372036854775807 := Nat.le_trans hT.2.1 hT.2.2.1
  have HT := Lib.hid hT
  have HK := Lib.hid hK
  have HSE := Lib.hid h
  clear hT hK h
  go_enter Try.func76, Try.ntmps76
  go_wp2
  go_loopw [5, 8] (fun s5 iv wr => ∃ q : Nat, q ≤ n ∧ iv = .int .i64 q ∧ Hid (∀ j, j < q → wantB ns (trD T j).1 = true) ∧ Hid (Below w.heap.size w wr)) (fun _ iv _ => n - (intOf iv).toNat)
  case atStart => exact ⟨0, Nat.zero_le _, rfl, Lib.hid (fun j hj => absurd hj (Nat.not_lt_zero _)), Lib.hid (Below.refl _ _)⟩
  case round =>
    obtain ⟨q, hq, rfl, HA, HB⟩ := hrel
    by_cases hlt : q < n
    · obtain ⟨b, off, rfl, hblt, _⟩ := HT.out.2.2.2 (by omega)
      obtain ⟨a0, a1⟩ := ts_at HT.out q hlt
      have a0 := cell_later HB.out a0
      have a1 := cell_later HB.out a1
      have hhd := HK.out _ (tr_mem T q (by omega))
      have hps := hS _ (tr_mem T q (by omega))
      obtain ⟨z, hz⟩ : ∃ x, wantB ns (trD T q).1 = x := ⟨_, rfl⟩
      have HZ := Lib.hid hz
      obtain ⟨x, hx⟩ : ∃ x, trD T q = x := ⟨_, rfl⟩
      rw [hx] at a0 a1 hhd hps hz
      clear hx
      obtain ⟨p, hd, vs⟩ := x
      simp only [] at a0 a1 hhd hps hz
      obtain ⟨vo, vn, vc, rfl, _⟩ := hhd
      have HP := Lib.hid (pick1_s p vo vn vc wr bn bm mb N D no nn nc ns (HSE.out.below HB.out) hn hps)
      rw [hz] at HP
      clear hz
      have d1 : (q : Int) < (n : Int) := by omega
      have d0 : (0 : Int) ≤ (q : Int) := by omega
      cases z with
      | true =>
        go_wp2_with fail
        refine HP.out.mono ?_
        rintro e w5 ⟨rfl, hb⟩
        have HB6 := Lib.hid (HB.out.trans (hb.mono HB.out.size))
        go_wp2_with fail
        go_roundw
        case rel =>
          refine ⟨q + 1, by omega, by go_num, Lib.hid fun j hj => ?_, HB6⟩
          by_cases e : j = q
          · rw [e]; exact HZ.out
          · exact HA.out j (by omega)
        case measure => simp [intOf]; omega
      | false =>
        go_wp2_with fail
        refine HP.out.mono ?_
        rintro e w5 ⟨rfl, hb⟩
        have HB6 := Lib.hid (HB.out.trans (hb.mono HB.out.size))
        go_wp2_with fail
        go_ret
        exact ⟨q, hq, HA.out, fun _ => HZ.out, by rw [if_pos hlt]; rfl, HB6.out⟩
    · obtain rfl : n = q := by omega
      go_wp2_with fail
      go_ret
      exact ⟨n, Nat.le_refl _, HA.out, fun e => absurd e (Nat.lt_irrefl _), by rw [if_neg (Nat.lt_irrefl _)]; rfl, HB.out⟩

end Go.Proofs.Ytahpocpagidahaa
