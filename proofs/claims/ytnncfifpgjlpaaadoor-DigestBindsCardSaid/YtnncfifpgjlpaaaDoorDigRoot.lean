/-
  Contracts of digest.Root and of the specification's. Condition: at most 1000 strings of at most 1000 bytes.
-/
import Derived.Test.YtnncfifpgjlpaaaDoorDigRUp
set_option linter.unusedVariables false
set_option linter.unusedSimpArgs false
set_option linter.unnecessarySimpa false
namespace Go.Proofs.YtnncfifpgjlpaaaDoor
open Go.RowKit Go.PlainAid

theorem rtext_k (s r : ByteArray) (w : World) (hs : s.size ≤ 1000000000) (h : r = txtS s) :
    Calls Tryd.prog 17 #[.string s] w fun e w' => e = .returned (.string r) ∧ w = w' := by
  rw [h]; exact rtext_s s w hs
def slLen : Value → Nat
  | .slice _ n _ => n
  | _ => 0
theorem leaf_fine (ps : List ByteArray) : ∀ j, j < (ps.map leafS).length → (partAt (ps.map leafS) j).size ≤ 1000 := by
  intro j hj
  unfold partAt
  rw [List.getD_eq_getElem?_getD, List.getElem?_eq_getElem hj, Option.getD_some, List.getElem_map, leafS_size]; decide
theorem top_end (lv : List ByteArray) (h : lv.length = 1) : topL lv = partAt lv 0 := by
  rw [topL_one lv (by omega)]
  match lv, h with
  | [a], _ => rfl
theorem root_cons (ps : List ByteArray) (h : 0 < ps.length) : rootS ps = topL (ps.map leafS) := by
  unfold rootS; rw [if_neg (by intro e; subst e; cases h)]

set_option maxRecDepth 100000 in
set_option maxHeartbeats 2000000 in
theorem root_s (ao : Option Addr) (n cap : Nat) (ps : List ByteArray) (w : World) (h : StrsAt w ao n cap ps) (hn : n ≤ 1000) (hp : ∀ j, j < n → (partAt ps j).size ≤ 1000) :
    Calls Tryd.prog 29 #[.slice ao n cap] w fun e w' => e = .returned (.string (rootS ps)) ∧ Below w.heap.size w w' := by
  have H := Lib.hid h
  have hcn := h.2.1
  have hcm := h.2.2.1
  obtain rfl := h.1
  unfold maxLen at hcm
  clear h
  have HP := Lib.hid hp; clear hp
  by_cases h0 : ps.length = 0
  · have HE := Lib.hid (show rootS ps = txtS ⟨#[]⟩ by unfold rootS; rw [if_pos (List.length_eq_zero_iff.1 h0)])
    have d : ((ps.length : Int) == 0) = true := by rw [beq_iff_eq]; omega
    clear h0
    go_enter Tryd.func29, Tryd.ntmps29
    go_wp2_with (go_at_call 16; refine (text_s ⟨#[]⟩ _ (by decide)).mono ?_; rintro e w1 ⟨rfl, hb1⟩)
    go_ret
    exact ⟨by rw [HE.out]; rfl, hb1⟩
  · have d : ((ps.length : Int) == 0) = false := by rw [beq_eq_false_iff_ne]; omega
    have HE := Lib.hid (root_cons ps (by omega))
    have hl0 : (ps.map leafS).length = ps.length := List.length_map _
    go_enter Tryd.func29, Tryd.ntmps29
    go_wp2_with (go_at_call 39; refine (leaves_s _ _ _ ps _ H.out hn HP.out).mono ?_; rintro e w1 ⟨⟨bo, dap, rfl, hat⟩, hb1⟩)
    go_loopw [3] (fun v wr => ∃ (bo : Option Addr) (m dap : Nat) (lv : List ByteArray), v = .slice bo m dap ∧ m ≤ 1000 ∧ 1 ≤ m ∧ Hid (StrsAt wr bo m dap lv) ∧ Hid (∀ j, j < lv.length → (partAt lv j).size ≤ 1000) ∧ Hid (topL lv = rootS ps) ∧ Below w.heap.size w wr)
      (fun v _ => slLen v)
    case atStart => exact ⟨bo, _, dap, _, rfl, hn, by omega, Lib.hid hat, Lib.hid (leaf_fine ps), Lib.hid HE.out.symm, hb1⟩
    case round =>
      obtain ⟨co, m, eap, lv, rfl, hm, hm1, HL, HF, HT, hbel⟩ := hrel
      have hlm := HL.out.1
      by_cases h1 : 1 < m
      · have HUL := Lib.hid (upL_len lv)
        have HU := Lib.hid (topL_up lv (by omega))
        go_wp2_with (go_at_call 40; refine (above_s _ _ _ lv _ HL.out hm HF.out).mono ?_; rintro e w2 ⟨⟨bo2, dap2, rfl, hat2, _⟩, hb2⟩)
        go_roundw
        case rel => exact ⟨bo2, _, dap2, _, rfl, by have := HUL.out; omega, by have := HUL.out; omega, Lib.hid hat2, Lib.hid (up_fine HF.out), Lib.hid (by rw [← HU.out]; exact HT.out), hbel.trans (hb2.mono hbel.size)⟩
        case measure => have := HUL.out; show (upL lv).length < m; omega
      · obtain rfl : m = 1 := by omega
        obtain ⟨b, off, rfl, hbw, hcells⟩ := HL.out.at (by omega)
        have hc := hcells _ (Below.refl _ _) 0 (by omega)
        rw [Nat.add_zero] at hc
        have HX := Lib.hid (show rootS ps = partAt lv 0 by rw [← HT.out]; exact top_end lv hlm)
        go_wp2
        go_ret
        exact ⟨by rw [HX.out]; rfl, hbel⟩

set_option maxRecDepth 100000 in
set_option maxHeartbeats 2000000 in
theorem rroot_s (ao : Option Addr) (n cap : Nat) (ps : List ByteArray) (w : World) (h : StrsAt w ao n cap ps) (hn : n ≤ 1000) (hp : ∀ j, j < n → (partAt ps j).size ≤ 1000) :
    Calls Tryd.prog 30 #[.slice ao n cap] w fun e w' => e = .returned (.string (rootS ps)) ∧ Below w.heap.size w w' := by
  have H := Lib.hid h
  have hcn := h.2.1
  have hcm := h.2.2.1
  obtain rfl := h.1
  unfold maxLen at hcm
  clear h
  have HP := Lib.hid hp; clear hp
  by_cases h0 : ps.length = 0
  · have HE := Lib.hid (show rootS ps = txtS ⟨#[]⟩ by unfold rootS; rw [if_pos (List.length_eq_zero_iff.1 h0)])
    have d : ((ps.length : Int) == 0) = true := by rw [beq_iff_eq]; omega
    clear h0
    go_enter Tryd.func30, Tryd.ntmps30
    go_wp2_with (go_at_call 42; refine (rleaves_s _ _ _ ps _ H.out hn HP.out).mono ?_; rintro e w1 ⟨⟨bo, dap, rfl, hat⟩, hb1⟩)
    refine (rtext_k ⟨#[]⟩ _ _ (by decide) HE.out).mono ?_
    rintro e w2 ⟨rfl, rfl⟩
    go_wp2_with fail
    go_ret
    exact ⟨rfl, hb1⟩
  · have d : ((ps.length : Int) == 0) = false := by rw [beq_eq_false_iff_ne]; omega
    have HE := Lib.hid (root_cons ps (by omega))
    have hl0 : (ps.map leafS).length = ps.length := List.length_map _
    go_enter Tryd.func30, Tryd.ntmps30
    go_wp2_with (go_at_call 42; refine (rleaves_s _ _ _ ps _ H.out hn HP.out).mono ?_; rintro e w1 ⟨⟨bo, dap, rfl, hat⟩, hb1⟩)
    go_loopw [3] (fun v wr => ∃ (bo : Option Addr) (m dap : Nat) (lv : List ByteArray), v = .slice bo m dap ∧ m ≤ 1000 ∧ 1 ≤ m ∧ Hid (StrsAt wr bo m dap lv) ∧ Hid (∀ j, j < lv.length → (partAt lv j).size ≤ 1000) ∧ Hid (topL lv = rootS ps) ∧ Below w.heap.size w wr)
      (fun v _ => slLen v)
    case atStart => exact ⟨bo, _, dap, _, rfl, hn, by omega, Lib.hid hat, Lib.hid (leaf_fine ps), Lib.hid HE.out.symm, hb1⟩
    case round =>
      obtain ⟨co, m, eap, lv, rfl, hm, hm1, HL, HF, HT, hbel⟩ := hrel
      have hlm := HL.out.1
      by_cases h1 : 1 < m
      · have HUL := Lib.hid (upL_len lv)
        have HU := Lib.hid (topL_up lv (by omega))
        go_wp2_with (go_at_call 43; refine (up_s _ _ _ lv _ HL.out hm HF.out).mono ?_; rintro e w2 ⟨⟨bo2, dap2, rfl, hat2, _⟩, hb2⟩)
        go_roundw
        case rel => exact ⟨bo2, _, dap2, _, rfl, by have := HUL.out; omega, by have := HUL.out; omega, Lib.hid hat2, Lib.hid (up_fine HF.out), Lib.hid (by rw [← HU.out]; exact HT.out), hbel.trans (hb2.mono hbel.size)⟩
        case measure => have := HUL.out; show (upL lv).length < m; omega
      · obtain rfl : m = 1 := by omega
        obtain ⟨b, off, rfl, hbw, hcells⟩ := HL.out.at (by omega)
        have hc := hcells _ (Below.refl _ _) 0 (by omega)
        rw [Nat.add_zero] at hc
        have HX := Lib.hid (show rootS ps = partAt lv 0 by rw [← HT.out]; exact top_end lv hlm)
        go_wp2
        go_ret
        exact ⟨by rw [HX.out]; rfl, hbel⟩

end Go.Proofs.YtnncfifpgjlpaaaDoor
