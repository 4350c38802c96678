/-
  Texts of the schema layer and of those beneath it, joined: ChgCd, ChgR3, ChgRf. Conditions stand at each contract.
-/
import Derived.Test.YtbkignlbcneddaaGreatDoorX09
import Derived.Test.YtbkignlbcneddaaGreatDoorX13
import Derived.Test.YtbkignlbcneddaaGreatDoorX14
import Derived.Test.YtbkignlbcneddaaGreatDoorX19
import Derived.Test.YtbkignlbcneddaaGreatDoorX20
import Derived.Test.YtbkignlbcneddaaGreatDoorX22
set_option linter.unusedVariables false
set_option linter.unusedSimpArgs false
set_option linter.unnecessarySimpa false

section
/-
  The candidate that the reference lays from a line's words, and that checking it and its line says the same as reading. Nothing of the program stands here. No condition.
-/
set_option maxRecDepth 100000
namespace Go.Proofs.YtbkignlbcneddaaGreatDoor
open Go.PlainAid
open Csn (Cn Vld vldC parEC parVC fmtS fmtL parEC_fmt parEC_ok)
def candN (ws : List ByteArray) : ByteArray := if ws.length = 4 then unS (partAt ws 3) else nilS
def candA (ws : List ByteArray) : ByteArray := if ws.length = 5 then unS (partAt ws 3) else nilS
def candV (ws : List ByteArray) : ByteArray := if ws.length = 5 then unS (partAt ws 4) else nilS
def candG (ws : List ByteArray) : Chg := ⟨parVC (partAt ws 1).data.toList, opW (partAt ws 0), partAt ws 2, candN ws, candA ws, candV ws⟩
theorem cand_words {g : Chg} (h : OkG g) : candG (wordsG g) = g ∧ 3 ≤ (wordsG g).length ∧ (wordsG g).length ≤ 5 ∧ parEC (partAt (wordsG g) 1).data.toList = 0 := by
  obtain ⟨e1, e2⟩ := un_fmt h.vld
  have e3 := op_word h.lo h.hi
  cases hN : useN g.op
  · cases hV : useV g.op
    · have hw : wordsG g = [wordW g.op, fmtS g.c, g.id] := by unfold wordsG argsG; rw [hN, hV]; rfl
      rw [hw]
      exact ⟨Chg.ext' e2 e3 rfl (h.nm hN).symm (h.av hV).1.symm (h.av hV).2.symm, by simp, by simp, e1⟩
    · have hw : wordsG g = [wordW g.op, fmtS g.c, g.id, escA g.ak, escA g.vl] := by unfold wordsG argsG; rw [hN, hV]; rfl
      rw [hw]
      exact ⟨Chg.ext' e2 e3 rfl (h.nm hN).symm (un_esc _).1 (un_esc _).1, by simp, by simp, e1⟩
  · have hV := useNV hN
    have hw : wordsG g = [wordW g.op, fmtS g.c, g.id, escA g.nm] := by unfold wordsG argsG; rw [hN]; rfl
    rw [hw]
    exact ⟨Chg.ext' e2 e3 rfl (un_esc _).1 (h.av hV).1.symm (h.av hV).2.symm, by simp, by simp, e1⟩
theorem par_cand {s : ByteArray} {g : Chg} (h : parG s = some g) : candG (partsB 32 s) = g ∧ 3 ≤ (partsB 32 s).length ∧ (partsB 32 s).length ≤ 5 ∧ parEC (partAt (partsB 32 s) 1).data.toList = 0 ∧ chkG g = 0 ∧ lineG g = s := by
  obtain ⟨h1, h2⟩ := line_par h
  have hk := chk_ok h1
  have e : partsB 32 s = wordsG g := by rw [← h2]; exact line_parts hk
  rw [e]
  have := cand_words hk
  exact ⟨this.1, this.2.1, this.2.2.1, this.2.2.2, h1, h2⟩
theorem par_few {s : ByteArray} (h : (partsB 32 s).length < 3 ∨ 5 < (partsB 32 s).length) : parG s = none := by
  cases e : parG s with
  | none => rfl
  | some g => have := par_cand e; omega
theorem par_num {s : ByteArray} (h : parEC (partAt (partsB 32 s) 1).data.toList ≠ 0) : parG s = none := by
  cases e : parG s with
  | none => rfl
  | some g => exact absurd (par_cand e).2.2.2.1 h
theorem par_chk {s : ByteArray} (h : chkG (candG (partsB 32 s)) ≠ 0) : parG s = none := by
  cases e : parG s with
  | none => rfl
  | some g =>
    obtain ⟨h1, _, _, _, h5, _⟩ := par_cand e
    rw [h1] at h; exact absurd h5 h
theorem par_other {s : ByteArray} (h : lnV (candG (partsB 32 s)) ≠ s) : parG s = none := by
  cases e : parG s with
  | none => rfl
  | some g =>
    obtain ⟨h1, _, _, _, h5, h6⟩ := par_cand e
    rw [h1] at h; unfold lnV at h; rw [if_pos h5] at h; exact absurd h6 h
theorem par_same {s : ByteArray} (hc : chkG (candG (partsB 32 s)) = 0) (h : lnV (candG (partsB 32 s)) = s) : parG s = some (candG (partsB 32 s)) := by
  unfold lnV at h; rw [if_pos hc] at h
  exact par_iff.2 ⟨hc, h⟩
end Go.Proofs.YtbkignlbcneddaaGreatDoor
end

section
/-
  Contract of the reference's Parse of a line. Condition: a text of at most 1000000 bytes.
-/
set_option maxRecDepth 100000
namespace Go.Proofs.YtbkignlbcneddaaGreatDoor
open Go.RowKit Go.PlainAid
open Csn (Cn cnV cnB KbC kbc_new box_below box_lt parEC parVC vldC fmtS TzOk)
theorem opW_le (s : ByteArray) : 0 ≤ opW s ∧ opW s ≤ 5 := by
  by_cases h : opW s = 0
  · omega
  · have := word_op h; omega
theorem word_iff {s : ByteArray} {k : Int} (h1 : 1 ≤ k) (h5 : k ≤ 5) : wordW k = s ↔ opW s = k := by
  constructor
  · intro h; rw [← h]; exact op_word h1 h5
  · intro h; have := (word_op (s := s) (by omega)).1; rw [h] at this; exact this
/-- the kind as far as the first k - 1 are tried -/
def opU (s : ByteArray) (k : Int) : Int := if opW s < k then opW s else 0
theorem opU_1 (s : ByteArray) : opU s 1 = 0 := by unfold opU; have := opW_le s; split <;> omega
theorem opU_6 (s : ByteArray) : opU s 6 = opW s := by unfold opU; have := opW_le s; rw [if_pos (by omega)]
theorem opU_hit {s : ByteArray} {k : Int} (h1 : 1 ≤ k) (h5 : k ≤ 5) (h : wordW k = s) : opU s (k + 1) = k := by unfold opU; have := (word_iff h1 h5).1 h; rw [if_pos (by omega)]; exact this
theorem opU_miss {s : ByteArray} {k : Int} (h1 : 1 ≤ k) (h5 : k ≤ 5) (h : wordW k ≠ s) : opU s (k + 1) = opU s k := by
  unfold opU
  have := mt (word_iff h1 h5).2 h
  by_cases e : opW s < k
  · rw [if_pos e, if_pos (by omega)]
  · rw [if_neg e, if_neg (by omega)]
/-- what is kept: the candidate's box, how far the world has gone since the words were made -/
structure RqP (w1 : World) (g : Chg) (W : World) : Prop where
  low : Below w1.heap.size w1 W
  box : KbC W w1.heap.size (chB g)
theorem RqP.step {w1 W X : World} {g : Chg} (h : RqP w1 g W) (hb : Below W.heap.size W X) : RqP w1 g X := ⟨h.low.trans (hb.mono h.low.size), Csn.KbC.step h.box hb⟩
theorem RqP.set {w1 W : World} {g g' : Chg} (k : Nat) (u : Value) (h : RqP w1 g W) (e : (gcells g).set k u = gcells g') : RqP w1 g' (W.setCell ⟨w1.heap.size, k, none⟩ u) :=
  ⟨h.low.setCell (p := ⟨w1.heap.size, k, none⟩) (Nat.le_refl _) u, kbc_set k u h.box e⟩
theorem rparse_k (s : ByteArray) (a b c z : Int) (w : World) (hs : s.size ≤ 1000000) (hv : parVC s.data.toList = (a, b, c)) (he : parEC s.data.toList = z) :
    Calls Tryz.prog 49 #[.string s] w fun e w' => e = .returned (.tuple #[.agg #[.int .i64 a, .int .i64 b, .int .i64 c], .int .i64 z]) ∧ Below w.heap.size w w' := by
  have := Csn.rparse_s s w hs
  rw [hv, he] at this
  exact this
theorem runesc_k (s r : ByteArray) (z : Int) (w : World) (hs : s.size ≤ 1000000) (hr : unS s = r) (hz : unE s = z) :
    Calls Tryz.prog 50 #[.string s] w fun e w' => e = .returned (.tuple #[.string r, .int .i64 z]) ∧ Below w.heap.size w w' := by subst hr hz; exact runescape_s s w (by omega)
theorem rparse_results (tmps : Array Value) (b : Nat) (cs : Array Value) (t : TypeId) (W : World) (hp : tmps.getD 2 undef = .pointer (some ⟨b, 0, none⟩)) (h : KbC W b (.cells cs t)) (h8 : cs.size = 8) :
    (results Tryz.f16 tmps).run Tryz.prog W = .ok (.tuple #[.agg cs, tmps.getD 3 undef]) W := by
  rw [results_cell_tmp rfl, hp]
  have hl := run_loadVar_row (P := Tryz.prog) W b t 26 cs (0, 0) _ h (by rfl) (by rfl) (by rw [h8]; rfl)
  simp [asAddr, Result.andThen, hl]
theorem par_fail {s : ByteArray} (h : parG s = none) : (parG s).getD zeroG = zeroG ∧ parE s = 4 := by unfold parE; rw [h]; exact ⟨rfl, rfl⟩
theorem part_size {s : ByteArray} (hs : s.size ≤ 1000000) (j : Nat) : (partAt (partsB 32 s) j).size ≤ 1000000 := part_z (fun x hx => Nat.le_trans (partsB_small hx) hs) j
set_option maxHeartbeats 16000000 in
theorem rparseln_s (s : ByteArray) (w : World) (hs : s.size ≤ 1000000) (ho : MaxOk w) :
    Calls Tryz.prog 16 #[.string s] w fun e w' => e = .returned (.tuple #[chV ((parG s).getD zeroG), .int .i64 (parE s)]) ∧ Below w.heap.size w w' := by
  have HS := Lib.hid hs
  have HM0 := Lib.hid ho
  have HZ := Lib.hid (part_size hs)
  have hbx := box_below w (chB zeroG)
  have HK0 := Lib.hid (kbc_new w (chB zeroG))
  rw [zero_is] at hbx HK0
  have HB0 := Lib.hid hbx
  clear hs ho hbx
  go_enter Tryz.func16, Tryz.ntmps16
  go_wp2_with fail
  generalize w.alloc (.cells #[.int .i64 0, .int .i64 0, .int .i64 0, .int .i64 0, .string ⟨#[]⟩, .string ⟨#[]⟩, .string ⟨#[]⟩, .string ⟨#[]⟩] 26) = W0 at HB0 HK0 ⊢
  refine (words_s s W0 (Nat.le_trans HS.out (by decide))).mono ?_
  rintro e w1 ⟨v, rfl, hown, hb⟩
  obtain ⟨n, hn⟩ : ∃ x, (partsB 32 s).length = x := ⟨_, rfl⟩
  rw [hn] at hown
  obtain ⟨ao, cap, rfl, hst⟩ := strs_own hown hn
  have HN := Lib.hid hn
  have HSt := Lib.hid hst
  have HB1 := Lib.hid (HB0.out.trans (hb.mono HB0.out.size))
  have HK1 := Lib.hid (show KbC w1 w.heap.size (chB zeroG) from zero_is ▸ Csn.KbC.step HK0.out hb)
  have HRs := Lib.hid (fun V (h : Below w1.heap.size w1 V) => Csn.KbC.step HK1.out h)
  have HMx := Lib.hid (fun V (h : Below w1.heap.size w1 V) => (HM0.out.far HB1.out).far h)
  clear hown hst hb hn
  by_cases hlo : n < 3
  · have d3 : (n : Int) < 3 := by omega
    have HE := Lib.hid (par_fail (par_few (.inl (by rw [HN.out]; exact hlo))))
    have gf : ∀ j, (w1).frozen? ⟨w.heap.size, j, none⟩ = false := fun j => Csn.KbC.frz (HRs.out (w1) (Below.refl w1.heap.size w1))
    have HG8 : Hid (KbC (w1) w.heap.size (.cells #[.int .i64 0, .int .i64 0, .int .i64 0, .int .i64 0, .string ⟨#[]⟩, .string ⟨#[]⟩, .string ⟨#[]⟩, .string ⟨#[]⟩] 26)) := Lib.hid (zero_is ▸ HRs.out (w1) (Below.refl w1.heap.size w1))
    have g0 := Csn.KbC.cell (i := 0) HG8.out rfl
    have g1 := Csn.KbC.cell (i := 1) HG8.out rfl
    have g2 := Csn.KbC.cell (i := 2) HG8.out rfl
    have g3 := Csn.KbC.cell (i := 3) HG8.out rfl
    have g4 := Csn.KbC.cell (i := 4) HG8.out rfl
    have g5 := Csn.KbC.cell (i := 5) HG8.out rfl
    have g6 := Csn.KbC.cell (i := 6) HG8.out rfl
    have g7 := Csn.KbC.cell (i := 7) HG8.out rfl
    go_wp2_with fail
    try simp only [Exit.inBlock, Exit.then]
    refine bodyPost_ret (rparse_results _ _ _ _ _ rfl (kbc_set8 HG8.out) rfl) rfl ?_
    exact ⟨by rw [HE.out.1, HE.out.2]; rfl, below_set8 (HB1.out.trans (((Below.refl w1.heap.size w1)).mono HB1.out.size)) (Nat.le_refl _) _ _ _ _ _ _ _ _⟩
  · have d3 : ¬ (n : Int) < 3 := by omega
    by_cases hhi : 5 < n
    · have d5 : (5 : Int) < (n : Int) := by omega
      have HE := Lib.hid (par_fail (par_few (.inr (by rw [HN.out]; exact hhi))))
      have gf : ∀ j, (w1).frozen? ⟨w.heap.size, j, none⟩ = false := fun j => Csn.KbC.frz (HRs.out (w1) (Below.refl w1.heap.size w1))
      have HG8 : Hid (KbC (w1) w.heap.size (.cells #[.int .i64 0, .int .i64 0, .int .i64 0, .int .i64 0, .string ⟨#[]⟩, .string ⟨#[]⟩, .string ⟨#[]⟩, .string ⟨#[]⟩] 26)) := Lib.hid (zero_is ▸ HRs.out (w1) (Below.refl w1.heap.size w1))
      have g0 := Csn.KbC.cell (i := 0) HG8.out rfl
      have g1 := Csn.KbC.cell (i := 1) HG8.out rfl
      have g2 := Csn.KbC.cell (i := 2) HG8.out rfl
      have g3 := Csn.KbC.cell (i := 3) HG8.out rfl
      have g4 := Csn.KbC.cell (i := 4) HG8.out rfl
      have g5 := Csn.KbC.cell (i := 5) HG8.out rfl
      have g6 := Csn.KbC.cell (i := 6) HG8.out rfl
      have g7 := Csn.KbC.cell (i := 7) HG8.out rfl
      go_wp2_with fail
      try simp only [Exit.inBlock, Exit.then]
      refine bodyPost_ret (rparse_results _ _ _ _ _ rfl (kbc_set8 HG8.out) rfl) rfl ?_
      exact ⟨by rw [HE.out.1, HE.out.2]; rfl, below_set8 (HB1.out.trans (((Below.refl w1.heap.size w1)).mono HB1.out.size)) (Nat.le_refl _) _ _ _ _ _ _ _ _⟩
    · have d5 : ¬ (5 : Int) < (n : Int) := by omega
      obtain ⟨bw, off, hao, hbw, hcs⟩ := HSt.out.2.2.2 (by omega)
      subst hao
      clear hcs hbw
      have HCell := Lib.hid (show ∀ V : World, Below w1.heap.size w1 V → ∀ j, j < n → V.cell? ⟨bw, off + j, none⟩ = some (.string (partAt (partsB 32 s) j)) from fun V h j hj => by
        obtain ⟨b', o', e', _, hc⟩ := (HSt.out.below h).2.2.2 (by omega)
        cases e'
        exact hc j (by rw [HN.out]; exact hj))
      have HP0 := Lib.hid (show ∀ x, partAt (partsB 32 s) 2 = x → RqP w1 ⟨(0, 0, 0), 0, x, nilS, nilS, nilS⟩ (w1.alloc (chB ⟨(0, 0, 0), 0, x, nilS, nilS, nilS⟩)) from fun x _ => ⟨box_below w1 _, kbc_new w1 _⟩)
      obtain ⟨w0, hw0⟩ : ∃ x, partAt (partsB 32 s) 0 = x := ⟨_, rfl⟩
      obtain ⟨wa, hw1⟩ : ∃ x, partAt (partsB 32 s) 1 = x := ⟨_, rfl⟩
      obtain ⟨w2, hw2⟩ : ∃ x, partAt (partsB 32 s) 2 = x := ⟨_, rfl⟩
      obtain ⟨w3, hw3⟩ : ∃ x, partAt (partsB 32 s) 3 = x := ⟨_, rfl⟩
      obtain ⟨w4, hw4⟩ : ∃ x, partAt (partsB 32 s) 4 = x := ⟨_, rfl⟩
      have HZs := Lib.hid (show w0.size ≤ 1000000 ∧ wa.size ≤ 1000000 ∧ w2.size ≤ 1000000 ∧ w3.size ≤ 1000000 ∧ w4.size ≤ 1000000 from ⟨by rw [← hw0]; exact HZ.out 0, by rw [← hw1]; exact HZ.out 1, by rw [← hw2]; exact HZ.out 2, by rw [← hw3]; exact HZ.out 3, by rw [← hw4]; exact HZ.out 4⟩)
      have HWd := Lib.hid (And.intro hw0 (And.intro hw1 (And.intro hw2 (And.intro hw3 hw4))))
      clear HZ hw0 hw1 hw2 hw3 hw4
      obtain ⟨⟨ca, cb, cc⟩, hcv⟩ : ∃ x, parVC wa.data.toList = x := ⟨_, rfl⟩
      obtain ⟨pe, hpe⟩ : ∃ x, parEC wa.data.toList = x := ⟨_, rfl⟩
      have HV := Lib.hid (And.intro hcv hpe)
      clear hcv hpe
      have HP := Lib.hid (HP0.out w2 HWd.out.2.2.1)
      clear HP0
      have l0 : (0 : Int) < (n : Int) := by omega
      have l0n : 0 < n := by omega
      have l1 : (1 : Int) < (n : Int) := by omega
      have l2 : (2 : Int) < (n : Int) := by omega
      have k2 := HCell.out w1 (Below.refl _ _) 2 (by omega)
      rw [HWd.out.2.2.1] at k2
      rw [show chB ⟨(0, 0, 0), 0, w2, nilS, nilS, nilS⟩ = (.cells #[.int .i64 0, .int .i64 0, .int .i64 0, .int .i64 0, .string w2, .string ⟨#[]⟩, .string ⟨#[]⟩, .string ⟨#[]⟩] 26 : Obj) from rfl] at HP
      go_wp2_with fail
      clear k2
      generalize w1.alloc (.cells #[.int .i64 0, .int .i64 0, .int .i64 0, .int .i64 0, .string w2, .string ⟨#[]⟩, .string ⟨#[]⟩, .string ⟨#[]⟩] 26) = W5 at HP ⊢
      go_loopw [6] (fun iv wr => ∃ k : Nat, 1 ≤ k ∧ k ≤ 6 ∧ iv = .int .i64 k ∧ Hid (RqP w1 ⟨(0, 0, 0), opU w0 k, w2, nilS, nilS, nilS⟩ wr)) (fun iv _ => 6 - (intOf iv).toNat)
      case atStart => exact ⟨1, Nat.le_refl _, by decide, rfl, Lib.hid (by have h := HP.out; rw [show opU w0 ((1 : Nat) : Int) = 0 from opU_1 w0]; exact h)⟩
      case round =>
        obtain ⟨k, hk1, hk6, rfl, HQ⟩ := hrel
        clear HP
        by_cases hlt : k ≤ 5
        · have e1 : (k : Int) ≤ 5 := by omega
          have HSt2 := Lib.hid (show ∀ V : World, RqP w1 ⟨(0, 0, 0), opU w0 k, w2, nilS, nilS, nilS⟩ V → (fun V : World => V.cell? ⟨bw, off, none⟩ = some (.string w0) ∧ Hid (RqP w1 ⟨(0, 0, 0), opU w0 k, w2, nilS, nilS, nilS⟩ V)) V from fun V h => ⟨by have := HCell.out V h.low 0 (by omega); rw [HWd.out.1] at this; exact this, Lib.hid h⟩)
          obtain ⟨wd, hwd⟩ : ∃ x, wordW (k : Int) = x := ⟨_, rfl⟩
          have HWw := Lib.hid (show ∀ V : World, Calls Tryz.prog 43 #[.int .i64 (k : Int)] V fun e w' => e = .returned (.string wd) ∧ Below V.heap.size V w' from fun V => by rw [← hwd]; exact word_s k V (by omega) (by omega))
          have HWe := Lib.hid hwd
          have hq := str_eq wd w0
          clear hwd
          go_wp2_with fail
          have S0 := HSt2.out _ (HQ.out.step (Below.refl _ _).drew)
          refine wp_region_held_drew (S := fun V => V.cell? ⟨bw, off, none⟩ = some (.string w0) ∧ Hid (RqP w1 ⟨(0, 0, 0), opU w0 k, w2, nilS, nilS, nilS⟩ V)) (by kernel_rfl) (S0) (fun hS => ?_)
          refine wpAnyH_take (i := 0) (oi := { dst := some 30, op := _, type := _, pos := _, after := _, guard := _ }) (v := ?_) rfl (by kernel_rfl) (by kernel_rfl) (by kernel_rfl) (fun _ _ _ h => h) (Or.inl ⟨by rfl, ?_⟩) (by assumption) ?_
          rotate_left
          · intro w hSw
            try dsimp only at hSw
            go_simp
            try with_reducible rfl
          try simp only [Act.put, List.setIfInBounds_toArray, List.set_cons_zero, List.set_cons_succ]
          refine wpAnyH_take (i := 2) (oi := { dst := some 32, op := _, type := _, pos := _, after := _, guard := _ }) (v := ?_) rfl (by kernel_rfl) (by kernel_rfl) (by kernel_rfl) (fun _ _ _ h => h) (Or.inl ⟨by rfl, ?_⟩) (by assumption) ?_
          rotate_left
          · intro w hSw
            try dsimp only at hSw
            go_simp
            try with_reducible rfl
          try simp only [Act.put, List.setIfInBounds_toArray, List.set_cons_zero, List.set_cons_succ]
          refine wpAnyH_take (i := 3) (oi := { dst := some 33, op := _, type := _, pos := _, after := _, guard := _ }) (v := ?_) rfl (by kernel_rfl) (by kernel_rfl) (by kernel_rfl) (fun _ _ _ h => h) (Or.inl ⟨by rfl, ?_⟩) (by assumption) ?_
          rotate_left
          · intro w hSw
            try dsimp only at hSw
            go_simp
            try with_reducible rfl
          try simp only [Act.put, List.setIfInBounds_toArray, List.set_cons_zero, List.set_cons_succ]
          refine wpAnyH_take (i := 4) (oi := { dst := some 34, op := _, type := _, pos := _, after := _, guard := _ }) (v := ?_) rfl (by kernel_rfl) (by kernel_rfl) (by kernel_rfl) (fun _ _ _ h => h) (Or.inl ⟨by rfl, ?_⟩) (by assumption) ?_
          rotate_left
          · intro w hSw
            try dsimp only at hSw
            go_simp
            try with_reducible rfl
          try simp only [Act.put, List.setIfInBounds_toArray, List.set_cons_zero, List.set_cons_succ]
          refine wpAnyH_ready (rs := [1]) (by kernel_rfl) (by simp) ?_
          refine AllReadyH.cons rfl (fun K hK => ?_) AllReadyH.nil
          go_simp
          refine (HWw.out _).mono ?_
          rintro _ v2 ⟨rfl, hb⟩
          have HK2 := Lib.hid (hS.2.out.step hb)
          clear hb
          go_wp2_with fail
          refine hK.out _ _ ?_ (fun hHeld => ?_)
          · exact HSt2.out _ HK2.out
          clear hK K
          try simp only [Act.put, List.setIfInBounds_toArray, List.set_cons_zero, List.set_cons_succ]
          refine wpAnyH_take (i := 5) (oi := { dst := some 35, op := _, type := _, pos := _, after := _, guard := _ }) (v := ?_) rfl (by kernel_rfl) (by kernel_rfl) (by kernel_rfl) (fun _ _ _ h => h) (Or.inl ⟨by rfl, ?_⟩) (by assumption) ?_
          rotate_left
          · intro w hSw
            try dsimp only at hSw
            go_simp
            try with_reducible rfl
          try simp only [Act.put, List.setIfInBounds_toArray, List.set_cons_zero, List.set_cons_succ]
          refine wpAnyH_done (by kernel_rfl) ?_ _
          have HQ := Lib.hid hHeld.2.out
          clear hHeld
          by_cases hx : wd = w0
          · have q : (wd.toList == w0.toList) = true := by rw [hq]; exact decide_eq_true hx
            have HO := Lib.hid (opU_hit (s := w0) (k := k) (by omega) (by omega) (by rw [HWe.out]; exact hx))
            obtain ⟨c0, c1, c2, c3, c4, c5, c6, c7⟩ := at8_box HQ.out.box
            dsimp only at c3
            have f3 := Csn.KbC.frz (i := 3) HQ.out.box
            have HQ2 := Lib.hid (HQ.out.set (g' := ⟨(0, 0, 0), (k : Int), w2, nilS, nilS, nilS⟩) 3 (.int .i64 (k : Int)) rfl)
            clear c0 c1 c2 c4 c5 c6 c7 hq
            rw [decide_eq_true hx]
            go_wp2_with fail
            go_roundw
            case rel => exact ⟨k + 1, by omega, by omega, by go_num, by first | exact Lib.hid (by have h := HQ2.out; rw [show opU w0 ((k + 1 : Nat) : Int) = (k : Int) from HO.out]; exact h)⟩
            case measure => simp [intOf]; omega
          · have q : (wd.toList == w0.toList) = false := by rw [hq]; exact decide_eq_false hx
            have HO := Lib.hid (opU_miss (s := w0) (k := k) (by omega) (by omega) (by rw [HWe.out]; exact hx))
            clear hq
            rw [decide_eq_false hx]
            go_wp2_with fail
            go_roundw
            case rel => exact ⟨k + 1, by omega, by omega, by go_num, Lib.hid (by have h := HQ.out; rw [show opU w0 ((k + 1 : Nat) : Int) = opU w0 (k : Int) from HO.out]; exact h)⟩
            case measure => simp [intOf]; omega
        · obtain rfl : k = 6 := by omega
          have e1 : ¬ ((6 : Nat) : Int) ≤ 5 := by decide
          obtain ⟨op, hop⟩ : ∃ x, opW w0 = x := ⟨_, rfl⟩
          have HP := Lib.hid (show RqP w1 ⟨(0, 0, 0), op, w2, nilS, nilS, nilS⟩ _ from by have h := HQ.out; rw [show opU w0 ((6 : Nat) : Int) = op from (opU_6 w0).trans hop] at h; exact h)
          have HOp := Lib.hid hop
          clear hop HQ
          have k1 := HCell.out _ HP.out.low 1 (by omega)
          rw [HWd.out.2.1] at k1
          go_wp2_with fail
          refine (rparse_k wa ca cb cc pe _ HZs.out.2.1 HV.out.1 HV.out.2).mono ?_
          rintro e v3 ⟨rfl, hb⟩
          have HP := Lib.hid (HP.out.step hb)
          clear hb k1
          have hb7 := box_below v3 (.cells #[.int .i64 ca, .int .i64 cb, .int .i64 cc] 23)
          have HK7 := Lib.hid (kbc_new v3 (.cells #[.int .i64 ca, .int .i64 cb, .int .i64 cc] 23))
          have HP := Lib.hid (HP.out.step hb7)
          clear hb7
          by_cases hpe0 : pe = 0
          · have q1 : (pe != 0) = false := by rw [hpe0]; rfl
            have m0 := Csn.KbC.cell (i := 0) HK7.out rfl
            have m1 := Csn.KbC.cell (i := 1) HK7.out rfl
            have m2 := Csn.KbC.cell (i := 2) HK7.out rfl
            have xf : ∀ j, (v3.alloc (.cells #[.int .i64 ca, .int .i64 cb, .int .i64 cc] 23)).frozen? ⟨w1.heap.size, j, none⟩ = false := fun j => Csn.KbC.frz HP.out.box
            obtain ⟨c0, c1, c2, c3, c4, c5, c6, c7⟩ := at8_box HP.out.box
            dsimp only at c0 c1 c2
            clear c3 c4 c5 c6 c7
            have HP3 := Lib.hid (RqP.set (g' := ⟨(ca, cb, cc), op, w2, nilS, nilS, nilS⟩) 2 (.int .i64 cc) (RqP.set (g' := ⟨(ca, cb, 0), op, w2, nilS, nilS, nilS⟩) 1 (.int .i64 cb) (RqP.set (g' := ⟨(ca, 0, 0), op, w2, nilS, nilS, nilS⟩) 0 (.int .i64 ca) HP.out rfl) rfl) rfl)
            obtain ⟨s3, hs3⟩ : ∃ x, unS w3 = x := ⟨_, rfl⟩
            obtain ⟨e3, he3⟩ : ∃ x, unE w3 = x := ⟨_, rfl⟩
            obtain ⟨s4, hs4⟩ : ∃ x, unS w4 = x := ⟨_, rfl⟩
            obtain ⟨e4, he4⟩ : ∃ x, unE w4 = x := ⟨_, rfl⟩
            have HU := Lib.hid (And.intro hs3 (And.intro he3 (And.intro hs4 he4)))
            clear hs3 he3 hs4 he4
            by_cases hn4 : n = 4
            · have r4 : ((n : Int) == 4) = true := by rw [hn4]; rfl
              have r5 : ((n : Int) == 5) = false := by rw [hn4]; rfl
              have l3 : (3 : Int) < (n : Int) := by omega
              have l3n : 3 < n := by omega
              have k3 := HCell.out _ HP3.out.low 3 (by omega)
              rw [HWd.out.2.2.2.1] at k3
              go_wp2_with fail
              refine (runesc_k w3 s3 e3 _ HZs.out.2.2.2.1 HU.out.1 HU.out.2.1).mono ?_
              rintro e v4 ⟨rfl, hb⟩
              have HP4 := Lib.hid (HP3.out.step hb)
              clear hb k3 m0 m1 m2 xf c0 c1 c2
              have f5 : v4.frozen? ⟨w1.heap.size, 5, none⟩ = false := Csn.KbC.frz HP4.out.box
              have z5 := (at8_box HP4.out.box).c5
              dsimp only at z5
              have HP5 := Lib.hid (HP4.out.set (g' := ⟨(ca, cb, cc), op, w2, s3, nilS, nilS⟩) 5 (.string s3) rfl)
              have HCd := Lib.hid (show candG (partsB 32 s) = ⟨(ca, cb, cc), op, w2, s3, nilS, nilS⟩ from by unfold candG candN candA candV; rw [HN.out, HWd.out.1, HWd.out.2.1, HWd.out.2.2.1, HWd.out.2.2.2.1, HWd.out.2.2.2.2, HV.out.1, HOp.out]; rw [if_pos hn4, if_neg (by omega), if_neg (by omega), HU.out.1])
              have HSm := Lib.hid (show SmG ⟨(ca, cb, cc), op, w2, s3, nilS, nilS⟩ from ⟨HZs.out.2.2.1, by rw [← HU.out.1]; exact Nat.le_trans (uns_size _) HZs.out.2.2.2.1, Nat.zero_le _, Nat.zero_le _⟩)
              obtain ⟨ln, hln⟩ : ∃ x, lnV ⟨(ca, cb, cc), op, w2, s3, nilS, nilS⟩ = x := ⟨_, rfl⟩
              obtain ⟨cz, hcz⟩ : ∃ x, chkG ⟨(ca, cb, cc), op, w2, s3, nilS, nilS⟩ = x := ⟨_, rfl⟩
              have HLk := Lib.hid (fun V (h : MaxOk V) => rline_s ⟨(ca, cb, cc), op, w2, s3, nilS, nilS⟩ V HSm.out h)
              rw [hln, hcz, chV_is] at HLk
              have HLc := Lib.hid (And.intro hln hcz)
              clear hln hcz
              obtain ⟨c0, c1, c2, c3, c4, c5, c6, c7⟩ := at8_box HP5.out.box
              dsimp only at c0 c1 c2 c3 c4 c5 c6 c7
              unfold nilS at c6 c7
              go_wp2_with fail
              clear c0 c1 c2 c3 c4 c5 c6 c7
              refine (HLk.out _ (HMx.out _ HP5.out.low)).mono ?_
              rintro e v9 ⟨rfl, hb⟩
              have H9 := Lib.hid (HP5.out.step hb)
              clear hb
              by_cases hc0 : cz = 0
              · have q9 : (cz != 0) = false := by rw [hc0]; rfl
                by_cases hl : ln = s
                · have hq := str_ne ln s
                  have hqe := str_eq ln s
                  rw [decide_eq_false (fun k => k hl)] at hq
                  rw [decide_eq_true hl] at hqe
                  have HE := Lib.hid (show parG s = some ⟨(ca, cb, cc), op, w2, s3, nilS, nilS⟩ ∧ parE s = 0 from by have := par_same (s := s) (by rw [HCd.out, HLc.out.2]; exact hc0) (by rw [HCd.out, HLc.out.1]; exact hl); rw [HCd.out] at this; exact ⟨this, by unfold parE; rw [this]; rfl⟩)
                  clear hc0 hl
                  obtain ⟨c0, c1, c2, c3, c4, c5, c6, c7⟩ := at8_box H9.out.box
                  dsimp only at c0 c1 c2 c3 c4 c5 c6 c7
                  unfold nilS at c6 c7
                  have gf : ∀ j, (v9).frozen? ⟨w.heap.size, j, none⟩ = false := fun j => Csn.KbC.frz (HRs.out (v9) H9.out.low)
                  have HG8 : Hid (KbC (v9) w.heap.size (.cells #[.int .i64 0, .int .i64 0, .int .i64 0, .int .i64 0, .string ⟨#[]⟩, .string ⟨#[]⟩, .string ⟨#[]⟩, .string ⟨#[]⟩] 26)) := Lib.hid (zero_is ▸ HRs.out (v9) H9.out.low)
                  have g0 := Csn.KbC.cell (i := 0) HG8.out rfl
                  have g1 := Csn.KbC.cell (i := 1) HG8.out rfl
                  have g2 := Csn.KbC.cell (i := 2) HG8.out rfl
                  have g3 := Csn.KbC.cell (i := 3) HG8.out rfl
                  have g4 := Csn.KbC.cell (i := 4) HG8.out rfl
                  have g5 := Csn.KbC.cell (i := 5) HG8.out rfl
                  have g6 := Csn.KbC.cell (i := 6) HG8.out rfl
                  have g7 := Csn.KbC.cell (i := 7) HG8.out rfl
                  go_wp2_with fail
                  try simp only [Exit.inBlock, Exit.then]
                  refine bodyPost_ret (rparse_results _ _ _ _ _ rfl (kbc_set8 HG8.out) rfl) rfl ?_
                  exact ⟨by rw [HE.out.1, HE.out.2]; rfl, below_set8 (HB1.out.trans (H9.out.low.mono HB1.out.size)) (Nat.le_refl _) _ _ _ _ _ _ _ _⟩
                · have hq := str_ne ln s
                  have hqe := str_eq ln s
                  rw [decide_eq_true (show ln ≠ s from hl)] at hq
                  rw [decide_eq_false hl] at hqe
                  have HE := Lib.hid (par_fail (par_other (by rw [HCd.out, HLc.out.1]; exact hl)))
                  have gf : ∀ j, (v9).frozen? ⟨w.heap.size, j, none⟩ = false := fun j => Csn.KbC.frz (HRs.out (v9) H9.out.low)
                  have HG8 : Hid (KbC (v9) w.heap.size (.cells #[.int .i64 0, .int .i64 0, .int .i64 0, .int .i64 0, .string ⟨#[]⟩, .string ⟨#[]⟩, .string ⟨#[]⟩, .string ⟨#[]⟩] 26)) := Lib.hid (zero_is ▸ HRs.out (v9) H9.out.low)
                  have g0 := Csn.KbC.cell (i := 0) HG8.out rfl
                  have g1 := Csn.KbC.cell (i := 1) HG8.out rfl
                  have g2 := Csn.KbC.cell (i := 2) HG8.out rfl
                  have g3 := Csn.KbC.cell (i := 3) HG8.out rfl
                  have g4 := Csn.KbC.cell (i := 4) HG8.out rfl
                  have g5 := Csn.KbC.cell (i := 5) HG8.out rfl
                  have g6 := Csn.KbC.cell (i := 6) HG8.out rfl
                  have g7 := Csn.KbC.cell (i := 7) HG8.out rfl
                  go_wp2_with fail
                  try simp only [Exit.inBlock, Exit.then]
                  refine bodyPost_ret (rparse_results _ _ _ _ _ rfl (kbc_set8 HG8.out) rfl) rfl ?_
                  exact ⟨by rw [HE.out.1, HE.out.2]; rfl, below_set8 (HB1.out.trans ((H9.out.low).mono HB1.out.size)) (Nat.le_refl _) _ _ _ _ _ _ _ _⟩
              · have q9 : (cz != 0) = true := by simpa using hc0
                have HE := Lib.hid (par_fail (par_chk (by rw [HCd.out, HLc.out.2]; exact hc0)))
                have gf : ∀ j, (v9).frozen? ⟨w.heap.size, j, none⟩ = false := fun j => Csn.KbC.frz (HRs.out (v9) H9.out.low)
                have HG8 : Hid (KbC (v9) w.heap.size (.cells #[.int .i64 0, .int .i64 0, .int .i64 0, .int .i64 0, .string ⟨#[]⟩, .string ⟨#[]⟩, .string ⟨#[]⟩, .string ⟨#[]⟩] 26)) := Lib.hid (zero_is ▸ HRs.out (v9) H9.out.low)
                have g0 := Csn.KbC.cell (i := 0) HG8.out rfl
                have g1 := Csn.KbC.cell (i := 1) HG8.out rfl
                have g2 := Csn.KbC.cell (i := 2) HG8.out rfl
                have g3 := Csn.KbC.cell (i := 3) HG8.out rfl
                have g4 := Csn.KbC.cell (i := 4) HG8.out rfl
                have g5 := Csn.KbC.cell (i := 5) HG8.out rfl
                have g6 := Csn.KbC.cell (i := 6) HG8.out rfl
                have g7 := Csn.KbC.cell (i := 7) HG8.out rfl
                go_wp2_with fail
                try simp only [Exit.inBlock, Exit.then]
                refine bodyPost_ret (rparse_results _ _ _ _ _ rfl (kbc_set8 HG8.out) rfl) rfl ?_
                exact ⟨by rw [HE.out.1, HE.out.2]; rfl, below_set8 (HB1.out.trans ((H9.out.low).mono HB1.out.size)) (Nat.le_refl _) _ _ _ _ _ _ _ _⟩
            · have r4 : ((n : Int) == 4) = false := by simp; omega
              by_cases hn5 : n = 5
              · have r5 : ((n : Int) == 5) = true := by rw [hn5]; rfl
                have l3 : (3 : Int) < (n : Int) := by omega
                have l4 : (4 : Int) < (n : Int) := by omega
                have k3 := HCell.out _ HP3.out.low 3 (by omega)
                rw [HWd.out.2.2.2.1] at k3
                go_wp2_with fail
                refine (runesc_k w3 s3 e3 _ HZs.out.2.2.2.1 HU.out.1 HU.out.2.1).mono ?_
                rintro e v4 ⟨rfl, hb⟩
                have HP4 := Lib.hid (HP3.out.step hb)
                clear hb k3 m0 m1 m2 xf c0 c1 c2
                have f6 : v4.frozen? ⟨w1.heap.size, 6, none⟩ = false := Csn.KbC.frz HP4.out.box
                have z6 := (at8_box HP4.out.box).c6
                dsimp only at z6
                have HP5 := Lib.hid (HP4.out.set (g' := ⟨(ca, cb, cc), op, w2, nilS, s3, nilS⟩) 6 (.string s3) rfl)
                have k4 := HCell.out _ HP5.out.low 4 (by omega)
                rw [HWd.out.2.2.2.2] at k4
                go_wp2_with fail
                refine (runesc_k w4 s4 e4 _ HZs.out.2.2.2.2 HU.out.2.2.1 HU.out.2.2.2).mono ?_
                rintro e v5 ⟨rfl, hb⟩
                have HP6 := Lib.hid (HP5.out.step hb)
                clear hb k4 f6 z6
                have f7 : v5.frozen? ⟨w1.heap.size, 7, none⟩ = false := Csn.KbC.frz HP6.out.box
                have z7 := (at8_box HP6.out.box).c7
                dsimp only at z7
                have HP7 := Lib.hid (HP6.out.set (g' := ⟨(ca, cb, cc), op, w2, nilS, s3, s4⟩) 7 (.string s4) rfl)
                have HCd := Lib.hid (show candG (partsB 32 s) = ⟨(ca, cb, cc), op, w2, nilS, s3, s4⟩ from by unfold candG candN candA candV; rw [HN.out, HWd.out.1, HWd.out.2.1, HWd.out.2.2.1, HWd.out.2.2.2.1, HWd.out.2.2.2.2, HV.out.1, HOp.out]; rw [if_neg (by omega), if_pos hn5, if_pos hn5, HU.out.1, HU.out.2.2.1])
                have HSm := Lib.hid (show SmG ⟨(ca, cb, cc), op, w2, nilS, s3, s4⟩ from ⟨HZs.out.2.2.1, Nat.zero_le _, by rw [← HU.out.1]; exact Nat.le_trans (uns_size _) HZs.out.2.2.2.1, by rw [← HU.out.2.2.1]; exact Nat.le_trans (uns_size _) HZs.out.2.2.2.2⟩)
                obtain ⟨ln, hln⟩ : ∃ x, lnV ⟨(ca, cb, cc), op, w2, nilS, s3, s4⟩ = x := ⟨_, rfl⟩
                obtain ⟨cz, hcz⟩ : ∃ x, chkG ⟨(ca, cb, cc), op, w2, nilS, s3, s4⟩ = x := ⟨_, rfl⟩
                have HLk := Lib.hid (fun V (h : MaxOk V) => rline_s ⟨(ca, cb, cc), op, w2, nilS, s3, s4⟩ V HSm.out h)
                rw [hln, hcz, chV_is] at HLk
                have HLc := Lib.hid (And.intro hln hcz)
                clear hln hcz
                obtain ⟨c0, c1, c2, c3, c4, c5, c6, c7⟩ := at8_box HP7.out.box
                dsimp only at c0 c1 c2 c3 c4 c5 c6 c7
                unfold nilS at c5
                go_wp2_with fail
                clear c0 c1 c2 c3 c4 c5 c6 c7
                refine (HLk.out _ (HMx.out _ HP7.out.low)).mono ?_
                rintro e v9 ⟨rfl, hb⟩
                have H9 := Lib.hid (HP7.out.step hb)
                clear hb
                by_cases hc0 : cz = 0
                · have q9 : (cz != 0) = false := by rw [hc0]; rfl
                  by_cases hl : ln = s
                  · have hq := str_ne ln s
                    have hqe := str_eq ln s
                    rw [decide_eq_false (fun k => k hl)] at hq
                    rw [decide_eq_true hl] at hqe
                    have HE := Lib.hid (show parG s = some ⟨(ca, cb, cc), op, w2, nilS, s3, s4⟩ ∧ parE s = 0 from by have := par_same (s := s) (by rw [HCd.out, HLc.out.2]; exact hc0) (by rw [HCd.out, HLc.out.1]; exact hl); rw [HCd.out] at this; exact ⟨this, by unfold parE; rw [this]; rfl⟩)
                    clear hc0 hl
                    obtain ⟨c0, c1, c2, c3, c4, c5, c6, c7⟩ := at8_box H9.out.box
                    dsimp only at c0 c1 c2 c3 c4 c5 c6 c7
                    unfold nilS at c5
                    have gf : ∀ j, (v9).frozen? ⟨w.heap.size, j, none⟩ = false := fun j => Csn.KbC.frz (HRs.out (v9) H9.out.low)
                    have HG8 : Hid (KbC (v9) w.heap.size (.cells #[.int .i64 0, .int .i64 0, .int .i64 0, .int .i64 0, .string ⟨#[]⟩, .string ⟨#[]⟩, .string ⟨#[]⟩, .string ⟨#[]⟩] 26)) := Lib.hid (zero_is ▸ HRs.out (v9) H9.out.low)
                    have g0 := Csn.KbC.cell (i := 0) HG8.out rfl
                    have g1 := Csn.KbC.cell (i := 1) HG8.out rfl
                    have g2 := Csn.KbC.cell (i := 2) HG8.out rfl
                    have g3 := Csn.KbC.cell (i := 3) HG8.out rfl
                    have g4 := Csn.KbC.cell (i := 4) HG8.out rfl
                    have g5 := Csn.KbC.cell (i := 5) HG8.out rfl
                    have g6 := Csn.KbC.cell (i := 6) HG8.out rfl
                    have g7 := Csn.KbC.cell (i := 7) HG8.out rfl
                    go_wp2_with fail
                    try simp only [Exit.inBlock, Exit.then]
                    refine bodyPost_ret (rparse_results _ _ _ _ _ rfl (kbc_set8 HG8.out) rfl) rfl ?_
                    exact ⟨by rw [HE.out.1, HE.out.2]; rfl, below_set8 (HB1.out.trans (H9.out.low.mono HB1.out.size)) (Nat.le_refl _) _ _ _ _ _ _ _ _⟩
                  · have hq := str_ne ln s
                    have hqe := str_eq ln s
                    rw [decide_eq_true (show ln ≠ s from hl)] at hq
                    rw [decide_eq_false hl] at hqe
                    have HE := Lib.hid (par_fail (par_other (by rw [HCd.out, HLc.out.1]; exact hl)))
                    have gf : ∀ j, (v9).frozen? ⟨w.heap.size, j, none⟩ = false := fun j => Csn.KbC.frz (HRs.out (v9) H9.out.low)
                    have HG8 : Hid (KbC (v9) w.heap.size (.cells #[.int .i64 0, .int .i64 0, .int .i64 0, .int .i64 0, .string ⟨#[]⟩, .string ⟨#[]⟩, .string ⟨#[]⟩, .string ⟨#[]⟩] 26)) := Lib.hid (zero_is ▸ HRs.out (v9) H9.out.low)
                    have g0 := Csn.KbC.cell (i := 0) HG8.out rfl
                    have g1 := Csn.KbC.cell (i := 1) HG8.out rfl
                    have g2 := Csn.KbC.cell (i := 2) HG8.out rfl
                    have g3 := Csn.KbC.cell (i := 3) HG8.out rfl
                    have g4 := Csn.KbC.cell (i := 4) HG8.out rfl
                    have g5 := Csn.KbC.cell (i := 5) HG8.out rfl
                    have g6 := Csn.KbC.cell (i := 6) HG8.out rfl
                    have g7 := Csn.KbC.cell (i := 7) HG8.out rfl
                    go_wp2_with fail
                    try simp only [Exit.inBlock, Exit.then]
                    refine bodyPost_ret (rparse_results _ _ _ _ _ rfl (kbc_set8 HG8.out) rfl) rfl ?_
                    exact ⟨by rw [HE.out.1, HE.out.2]; rfl, below_set8 (HB1.out.trans ((H9.out.low).mono HB1.out.size)) (Nat.le_refl _) _ _ _ _ _ _ _ _⟩
                · have q9 : (cz != 0) = true := by simpa using hc0
                  have HE := Lib.hid (par_fail (par_chk (by rw [HCd.out, HLc.out.2]; exact hc0)))
                  have gf : ∀ j, (v9).frozen? ⟨w.heap.size, j, none⟩ = false := fun j => Csn.KbC.frz (HRs.out (v9) H9.out.low)
                  have HG8 : Hid (KbC (v9) w.heap.size (.cells #[.int .i64 0, .int .i64 0, .int .i64 0, .int .i64 0, .string ⟨#[]⟩, .string ⟨#[]⟩, .string ⟨#[]⟩, .string ⟨#[]⟩] 26)) := Lib.hid (zero_is ▸ HRs.out (v9) H9.out.low)
                  have g0 := Csn.KbC.cell (i := 0) HG8.out rfl
                  have g1 := Csn.KbC.cell (i := 1) HG8.out rfl
                  have g2 := Csn.KbC.cell (i := 2) HG8.out rfl
                  have g3 := Csn.KbC.cell (i := 3) HG8.out rfl
                  have g4 := Csn.KbC.cell (i := 4) HG8.out rfl
                  have g5 := Csn.KbC.cell (i := 5) HG8.out rfl
                  have g6 := Csn.KbC.cell (i := 6) HG8.out rfl
                  have g7 := Csn.KbC.cell (i := 7) HG8.out rfl
                  go_wp2_with fail
                  try simp only [Exit.inBlock, Exit.then]
                  refine bodyPost_ret (rparse_results _ _ _ _ _ rfl (kbc_set8 HG8.out) rfl) rfl ?_
                  exact ⟨by rw [HE.out.1, HE.out.2]; rfl, below_set8 (HB1.out.trans ((H9.out.low).mono HB1.out.size)) (Nat.le_refl _) _ _ _ _ _ _ _ _⟩
              · have r5 : ((n : Int) == 5) = false := by simp; omega
                skip
                have HCd := Lib.hid (show candG (partsB 32 s) = ⟨(ca, cb, cc), op, w2, nilS, nilS, nilS⟩ from by unfold candG candN candA candV; rw [HN.out, HWd.out.1, HWd.out.2.1, HWd.out.2.2.1, HWd.out.2.2.2.1, HWd.out.2.2.2.2, HV.out.1, HOp.out]; rw [if_neg (by omega), if_neg (by omega), if_neg (by omega)])
                have HSm := Lib.hid (show SmG ⟨(ca, cb, cc), op, w2, nilS, nilS, nilS⟩ from ⟨HZs.out.2.2.1, Nat.zero_le _, Nat.zero_le _, Nat.zero_le _⟩)
                obtain ⟨ln, hln⟩ : ∃ x, lnV ⟨(ca, cb, cc), op, w2, nilS, nilS, nilS⟩ = x := ⟨_, rfl⟩
                obtain ⟨cz, hcz⟩ : ∃ x, chkG ⟨(ca, cb, cc), op, w2, nilS, nilS, nilS⟩ = x := ⟨_, rfl⟩
                have HLk := Lib.hid (fun V (h : MaxOk V) => rline_s ⟨(ca, cb, cc), op, w2, nilS, nilS, nilS⟩ V HSm.out h)
                rw [hln, hcz, chV_is] at HLk
                have HLc := Lib.hid (And.intro hln hcz)
                clear hln hcz
                obtain ⟨c0, c1, c2, c3, c4, c5, c6, c7⟩ := at8_box HP3.out.box
                dsimp only at c0 c1 c2 c3 c4 c5 c6 c7
                unfold nilS at c5 c6 c7
                go_wp2_with fail
                clear c0 c1 c2 c3 c4 c5 c6 c7
                refine (HLk.out _ (HMx.out _ HP3.out.low)).mono ?_
                rintro e v9 ⟨rfl, hb⟩
                have H9 := Lib.hid (HP3.out.step hb)
                clear hb
                by_cases hc0 : cz = 0
                · have q9 : (cz != 0) = false := by rw [hc0]; rfl
                  by_cases hl : ln = s
                  · have hq := str_ne ln s
                    have hqe := str_eq ln s
                    rw [decide_eq_false (fun k => k hl)] at hq
                    rw [decide_eq_true hl] at hqe
                    have HE := Lib.hid (show parG s = some ⟨(ca, cb, cc), op, w2, nilS, nilS, nilS⟩ ∧ parE s = 0 from by have := par_same (s := s) (by rw [HCd.out, HLc.out.2]; exact hc0) (by rw [HCd.out, HLc.out.1]; exact hl); rw [HCd.out] at this; exact ⟨this, by unfold parE; rw [this]; rfl⟩)
                    clear hc0 hl
                    obtain ⟨c0, c1, c2, c3, c4, c5, c6, c7⟩ := at8_box H9.out.box
                    dsimp only at c0 c1 c2 c3 c4 c5 c6 c7
                    unfold nilS at c5 c6 c7
                    have gf : ∀ j, (v9).frozen? ⟨w.heap.size, j, none⟩ = false := fun j => Csn.KbC.frz (HRs.out (v9) H9.out.low)
                    have HG8 : Hid (KbC (v9) w.heap.size (.cells #[.int .i64 0, .int .i64 0, .int .i64 0, .int .i64 0, .string ⟨#[]⟩, .string ⟨#[]⟩, .string ⟨#[]⟩, .string ⟨#[]⟩] 26)) := Lib.hid (zero_is ▸ HRs.out (v9) H9.out.low)
                    have g0 := Csn.KbC.cell (i := 0) HG8.out rfl
                    have g1 := Csn.KbC.cell (i := 1) HG8.out rfl
                    have g2 := Csn.KbC.cell (i := 2) HG8.out rfl
                    have g3 := Csn.KbC.cell (i := 3) HG8.out rfl
                    have g4 := Csn.KbC.cell (i := 4) HG8.out rfl
                    have g5 := Csn.KbC.cell (i := 5) HG8.out rfl
                    have g6 := Csn.KbC.cell (i := 6) HG8.out rfl
                    have g7 := Csn.KbC.cell (i := 7) HG8.out rfl
                    go_wp2_with fail
                    try simp only [Exit.inBlock, Exit.then]
                    refine bodyPost_ret (rparse_results _ _ _ _ _ rfl (kbc_set8 HG8.out) rfl) rfl ?_
                    exact ⟨by rw [HE.out.1, HE.out.2]; rfl, below_set8 (HB1.out.trans (H9.out.low.mono HB1.out.size)) (Nat.le_refl _) _ _ _ _ _ _ _ _⟩
                  · have hq := str_ne ln s
                    have hqe := str_eq ln s
                    rw [decide_eq_true (show ln ≠ s from hl)] at hq
                    rw [decide_eq_false hl] at hqe
                    have HE := Lib.hid (par_fail (par_other (by rw [HCd.out, HLc.out.1]; exact hl)))
                    have gf : ∀ j, (v9).frozen? ⟨w.heap.size, j, none⟩ = false := fun j => Csn.KbC.frz (HRs.out (v9) H9.out.low)
                    have HG8 : Hid (KbC (v9) w.heap.size (.cells #[.int .i64 0, .int .i64 0, .int .i64 0, .int .i64 0, .string ⟨#[]⟩, .string ⟨#[]⟩, .string ⟨#[]⟩, .string ⟨#[]⟩] 26)) := Lib.hid (zero_is ▸ HRs.out (v9) H9.out.low)
                    have g0 := Csn.KbC.cell (i := 0) HG8.out rfl
                    have g1 := Csn.KbC.cell (i := 1) HG8.out rfl
                    have g2 := Csn.KbC.cell (i := 2) HG8.out rfl
                    have g3 := Csn.KbC.cell (i := 3) HG8.out rfl
                    have g4 := Csn.KbC.cell (i := 4) HG8.out rfl
                    have g5 := Csn.KbC.cell (i := 5) HG8.out rfl
                    have g6 := Csn.KbC.cell (i := 6) HG8.out rfl
                    have g7 := Csn.KbC.cell (i := 7) HG8.out rfl
                    go_wp2_with fail
                    try simp only [Exit.inBlock, Exit.then]
                    refine bodyPost_ret (rparse_results _ _ _ _ _ rfl (kbc_set8 HG8.out) rfl) rfl ?_
                    exact ⟨by rw [HE.out.1, HE.out.2]; rfl, below_set8 (HB1.out.trans ((H9.out.low).mono HB1.out.size)) (Nat.le_refl _) _ _ _ _ _ _ _ _⟩
                · have q9 : (cz != 0) = true := by simpa using hc0
                  have HE := Lib.hid (par_fail (par_chk (by rw [HCd.out, HLc.out.2]; exact hc0)))
                  have gf : ∀ j, (v9).frozen? ⟨w.heap.size, j, none⟩ = false := fun j => Csn.KbC.frz (HRs.out (v9) H9.out.low)
                  have HG8 : Hid (KbC (v9) w.heap.size (.cells #[.int .i64 0, .int .i64 0, .int .i64 0, .int .i64 0, .string ⟨#[]⟩, .string ⟨#[]⟩, .string ⟨#[]⟩, .string ⟨#[]⟩] 26)) := Lib.hid (zero_is ▸ HRs.out (v9) H9.out.low)
                  have g0 := Csn.KbC.cell (i := 0) HG8.out rfl
                  have g1 := Csn.KbC.cell (i := 1) HG8.out rfl
                  have g2 := Csn.KbC.cell (i := 2) HG8.out rfl
                  have g3 := Csn.KbC.cell (i := 3) HG8.out rfl
                  have g4 := Csn.KbC.cell (i := 4) HG8.out rfl
                  have g5 := Csn.KbC.cell (i := 5) HG8.out rfl
                  have g6 := Csn.KbC.cell (i := 6) HG8.out rfl
                  have g7 := Csn.KbC.cell (i := 7) HG8.out rfl
                  go_wp2_with fail
                  try simp only [Exit.inBlock, Exit.then]
                  refine bodyPost_ret (rparse_results _ _ _ _ _ rfl (kbc_set8 HG8.out) rfl) rfl ?_
                  exact ⟨by rw [HE.out.1, HE.out.2]; rfl, below_set8 (HB1.out.trans ((H9.out.low).mono HB1.out.size)) (Nat.le_refl _) _ _ _ _ _ _ _ _⟩
          · have q1 : (pe != 0) = true := by simpa using hpe0
            have HE := Lib.hid (par_fail (par_num (by rw [HWd.out.2.1, HV.out.2]; exact hpe0)))
            have gf : ∀ j, (v3.alloc (.cells #[.int .i64 ca, .int .i64 cb, .int .i64 cc] 23)).frozen? ⟨w.heap.size, j, none⟩ = false := fun j => Csn.KbC.frz (HRs.out (v3.alloc (.cells #[.int .i64 ca, .int .i64 cb, .int .i64 cc] 23)) HP.out.low)
            have HG8 : Hid (KbC (v3.alloc (.cells #[.int .i64 ca, .int .i64 cb, .int .i64 cc] 23)) w.heap.size (.cells #[.int .i64 0, .int .i64 0, .int .i64 0, .int .i64 0, .string ⟨#[]⟩, .string ⟨#[]⟩, .string ⟨#[]⟩, .string ⟨#[]⟩] 26)) := Lib.hid (zero_is ▸ HRs.out (v3.alloc (.cells #[.int .i64 ca, .int .i64 cb, .int .i64 cc] 23)) HP.out.low)
            have g0 := Csn.KbC.cell (i := 0) HG8.out rfl
            have g1 := Csn.KbC.cell (i := 1) HG8.out rfl
            have g2 := Csn.KbC.cell (i := 2) HG8.out rfl
            have g3 := Csn.KbC.cell (i := 3) HG8.out rfl
            have g4 := Csn.KbC.cell (i := 4) HG8.out rfl
            have g5 := Csn.KbC.cell (i := 5) HG8.out rfl
            have g6 := Csn.KbC.cell (i := 6) HG8.out rfl
            have g7 := Csn.KbC.cell (i := 7) HG8.out rfl
            go_wp2_with fail
            try simp only [Exit.inBlock, Exit.then]
            refine bodyPost_ret (rparse_results _ _ _ _ _ rfl (kbc_set8 HG8.out) rfl) rfl ?_
            exact ⟨by rw [HE.out.1, HE.out.2]; rfl, below_set8 (HB1.out.trans ((HP.out.low).mono HB1.out.size)) (Nat.le_refl _) _ _ _ _ _ _ _ _⟩
end Go.Proofs.YtbkignlbcneddaaGreatDoor
end

section
/-
  Contract of the reference's Read. Condition: a text of at most 1000000 bytes.
-/
set_option maxRecDepth 100000
namespace Go.Proofs.YtbkignlbcneddaaGreatDoor
open Go.RowKit Go.PlainAid
open Csn (Cn cnV cnB KbC kbc_new box_below box_lt parEC parVC vldC fmtS TzOk)
theorem chr_at {u : ByteArray} {j : Nat} (h : j < u.size) : u.data.toList[j]? = some (chr u j) := by
  unfold chr
  rw [List.getD_eq_getElem?_getD, List.getElem?_eq_getElem (by simpa using h)]; rfl
theorem nl_none {u : ByteArray} (hn : ∀ j, j < u.size → chr u j ≠ 10) : cutOk u ⟨#[10]⟩ = false := by
  cases e : cutOk u ⟨#[10]⟩
  · rfl
  · have h := cut_split u 10 e
    have h1 : u.data.toList[(cutBef u ⟨#[10]⟩).data.toList.length]? = some 10 := by rw [h]; simp
    obtain ⟨h2, _⟩ := List.getElem?_eq_some_iff.1 h1
    have hlt : (cutBef u ⟨#[10]⟩).data.toList.length < u.size := by rw [show u.data.toList.length = u.size from Array.length_toList] at h2; exact h2
    rw [chr_at hlt] at h1
    exact absurd (Option.some.inj h1) (hn _ hlt)
theorem nl_at {u : ByteArray} {i : Nat} (hi : i < u.size) (hn : ∀ j, j < i → chr u j ≠ 10) (hc : chr u i = 10) : cutOk u ⟨#[10]⟩ = true ∧ cutBef u ⟨#[10]⟩ = u.extract 0 i ∧ cutAft u ⟨#[10]⟩ = u.extract (i + 1) u.size := by
  have hl : u.data.toList.length = u.size := Array.length_toList
  have e : u.data.toList = u.data.toList.take i ++ 10 :: u.data.toList.drop (i + 1) := by
    have h1 := (List.take_append_drop i u.data.toList).symm
    rw [List.drop_eq_getElem_cons (by rw [hl]; exact hi)] at h1
    have h2 : u.data.toList[i]'(by rw [hl]; exact hi) = 10 := by
      have := chr_at hi
      rw [List.getElem?_eq_getElem (by rw [hl]; exact hi), hc] at this
      exact Option.some.inj this
    rw [h2] at h1
    exact h1
  have hx : (10 : UInt8) ∉ u.data.toList.take i := by
    intro k
    obtain ⟨j, hj, hv⟩ := List.getElem_of_mem k
    rw [List.length_take, hl] at hj
    have h3 : u.data.toList[j]? = some 10 := by rw [← hv, List.getElem_take]; exact List.getElem?_eq_getElem _
    rw [chr_at (by omega)] at h3
    exact hn j (by omega) (Option.some.inj h3)
  have hm := cut_mk (u.data.toList.take i) (u.data.toList.drop (i + 1)) 10 hx
  rw [← e, show ofL u.data.toList = u from Lib.mk_data u] at hm
  refine ⟨hm.1, hm.2.1.trans ?_, hm.2.2.trans ?_⟩
  · rw [extract_ofL u 0 i (by omega)]; simp
  · rw [extract_ofL u (i + 1) u.size (Nat.le_refl _), List.take_of_length_le (by rw [List.length_drop, hl]; exact Nat.le_refl _)]
theorem row_slice {w : World} {base : Nat} {e : TypeId} {size : Nat} {v : Value} {n : Nat} {xs : List Value} (h : w.ownsRow base e size v n xs) : ∃ ao cap, v = .slice ao n cap := by
  rcases h.2 with ⟨rfl, rfl⟩ | ⟨g, cap, cur, rfl, _⟩
  · exact ⟨_, _, rfl⟩
  · exact ⟨_, _, rfl⟩
theorem rparsek (s : ByteArray) (g : Chg) (c : Int) (w : World) (hs : s.size ≤ 1000000) (ho : COk w) (hg : (parG s).getD zeroG = g) (hc : parE s = c) :
    Calls Tryz.prog 16 #[.string s] w fun e w' => e = .returned (.tuple #[chV g, .int .i64 c]) ∧ Below w.heap.size w w' := by subst hg hc; exact rparseln_s s w hs ho.mx
set_option maxHeartbeats 16000000 in
theorem rchread_s (s : ByteArray) (w : World) (hs : s.size ≤ 1000000) (ho : COk w) :
    Calls Tryz.prog 22 #[.string s] w fun e w' => ∃ v, e = .returned (.tuple #[v, .int .i64 (rdG s).2.1, .int .i64 (rdG s).2.2]) ∧ w'.ownsRow w.heap.size 26 8 v (rdG s).1.length (chcells (rdG s).1) ∧ Below w.heap.size w w' := by
  have HS := Lib.hid hs
  have HO := Lib.hid ho
  have HI := Lib.hid (show RdI w s s.size s [] (.slice none 0 0) w from ⟨Below.refl _ _, World.ownsRow_nil _ _ _ _, ho, rfl, Nat.le_refl _, Nat.le_refl _, by simp⟩)
  have HNl := Lib.hid (fun (V : World) => (World.ownsRow_nil V w.heap.size 26 8 : V.ownsRow w.heap.size 26 8 (.slice none 0 0) ([] : List Chg).length (chcells [])))
  have hgb := get_bt
  clear hs ho
  go_enter Tryz.func22, Tryz.ntmps22
  go_wp2_with fail
  go_loopw [0, 5, 6, 7, 8] (fun uv lv _ _ _ wr => ∃ (k : Nat) (u : ByteArray) (out : List Chg) (n : Nat) (lo : Option Addr) (lc : Nat), uv = .string u ∧ n = out.length ∧ lv = .slice lo n lc ∧ Hid (RdI w s k u out (.slice lo n lc) wr)) (fun uv _ _ _ _ _ => match uv with | .string u => u.size | _ => 0)
  case atStart => exact ⟨s.size, s, [], 0, none, 0, rfl, rfl, rfl, HI⟩
  case round =>
    clear HI
    obtain ⟨k, u, out, n, lo, lc, rfl, hn, rfl, HI⟩ := hrel
    have HU := Lib.hid (Nat.le_trans HI.out.us HS.out)
    have hgb := hgb u
    have hq := nil_ne u
    have he := nil_emp u
    have HN := Lib.hid hn
    have hn4 : n ≤ 4096 := by rw [hn]; exact HI.out.len
    have hw : wrap64 ((n : Int) + 1) = (n : Int) + 1 := by first | go_num | (unfold wrap64; omega)
    clear hn
    by_cases h0 : u = nilS
    · rw [decide_eq_false (fun k => k h0)] at hq
      have HE := Lib.hid (show rdG s = (out, 0, 0) from HI.out.eq.trans (rd_end (by rw [h0]; rfl)))
      rw [decide_eq_true h0] at he
      clear h0
      go_wp2_with fail
      go_ret3
      exact ⟨_, by rw [HE.out]; rfl, by rw [HE.out]; exact HI.out.own, HI.out.low⟩
    · rw [decide_eq_true h0] at hq
      rw [decide_eq_false h0] at he
      have HZ := Lib.hid (show u.size ≠ 0 from fun e => h0 (ba_ext (by rw [size_nil e]; rfl)))
      clear h0
      go_wp2_with fail
      go_loopw [6] (fun iv wx => ∃ i : Nat, i ≤ u.size ∧ iv = .int .i64 i ∧ Hid (∀ j, j < i → chr u j ≠ 10) ∧ Hid (RdI w s k u out (.slice lo n lc) wx)) (fun iv _ => u.size - (intOf iv).toNat)
      case atStart => exact ⟨0, Nat.zero_le _, rfl, Lib.hid (fun j hj => absurd hj (Nat.not_lt_zero _)), HI⟩
      case round =>
        clear HI
        obtain ⟨i, hi, rfl, HNc, HI⟩ := hrel
        have HIi := Lib.hid hi
        have hU := HU.out
        by_cases hlt : i < u.size
        · have g1 : decide ((i : Int) < (u.size : Int)) = true := decide_eq_true (by omega)
          have HC := Lib.hid (bt_chr u i)
          have HLt := Lib.hid hlt
          cases c0 : (bt u i == 10)
          · have c1 : (bt u i != 10) = true := by rw [bne, c0]; rfl
            have HNB := Lib.hid (show chr u i ≠ 10 from fun e => by
              have h1 : bt u i = 10 := by rw [HC.out, e]; rfl
              rw [h1] at c0; simp at c0)
            go_wp2_with fail
            go_roundw
            case rel => exact ⟨i + 1, by omega, by go_num, Lib.hid (fun j h1 => if e : j = i then by rw [e]; exact HNB.out else HNc.out j (by omega)), HI⟩
            case measure => simp [intOf]; omega
          · have c1 : (bt u i != 10) = false := by rw [bne, c0]; rfl
            have HB := Lib.hid (show chr u i = 10 by
              have h1 : bt u i = 10 := beq_iff_eq.1 c0
              exact UInt8.toNat_inj.1 (by have := HC.out; have h10 : (10 : UInt8).toNat = 10 := rfl; omega))
            have HX := Lib.hid (nl_at HLt.out HNc.out HB.out)
            by_cases h1 : 4096 ≤ n
            · have d1 : (4096 : Int) ≤ (n : Int) := by omega
              have HE := Lib.hid (HI.out.eq.trans (rd_many HI.out.sz HZ.out (by rw [← HN.out]; exact h1)))
              rw [← HN.out] at HE
              clear h1
              go_wp2_with fail
              go_ret3
              exact ⟨.slice none 0 0, by rw [HE.out]; first | rfl | (simp only [hw]; rfl), by rw [HE.out]; exact HNl.out _, HI.out.low⟩
            · have d1 : ¬ (4096 : Int) ≤ (n : Int) := by omega
              have H1 := Lib.hid (show ¬ 4096 ≤ out.length from by rw [← HN.out]; exact h1)
              clear h1
              have q2 : ((i : Int) == (u.size : Int)) = false := by simp; omega
              obtain ⟨x, hx⟩ : ∃ x, u.extract 0 i = x := ⟨_, rfl⟩
              obtain ⟨y, hy⟩ : ∃ x, u.extract (i + 1) u.size = x := ⟨_, rfl⟩
              rw [hx, hy] at HX
              have hxz : x.size ≤ 1000000 := by rw [← HX.out.2.1]; exact Nat.le_trans (cutB_size u) HU.out
              obtain ⟨g, hg⟩ : ∃ v, (parG x).getD zeroG = v := ⟨_, rfl⟩
              obtain ⟨c, hc⟩ : ∃ v, parE x = v := ⟨_, rfl⟩
              have HC1 := Lib.hid (fun V (hV : COk V) => rparsek x g c V hxz hV hg hc)
              have HG := Lib.hid (And.intro hg hc)
              clear hg hc
              obtain ⟨⟨t, q, r⟩, o, id, nm, a, vl⟩ := g
              rw [chV_is] at HC1
              go_wp2_with fail
              refine (HC1.out _ HI.out.ok).mono ?_
              rintro e w2 ⟨rfl, hb⟩
              have HI := Lib.hid (HI.out.step hb)
              clear hb
              have HIb := Lib.hid (HI.out.step (box_below w2 (chB ⟨(t, q, r), o, id, nm, a, vl⟩)))
              have HKb := Lib.hid (kbc_new w2 (chB ⟨(t, q, r), o, id, nm, a, vl⟩))
              rw [chB_is] at HIb HKb
              rcases parE_or x with ⟨p1, p2⟩ | ⟨g', p1, p2⟩
              · obtain rfl : c = 4 := HG.out.2.symm.trans p2
                have HE := Lib.hid (HI.out.eq.trans (rd_wrong HI.out.sz HZ.out H1.out HX.out.1 (by rw [HX.out.2.1]; exact p1)))
                rw [← HN.out] at HE
                clear p1 p2
                go_wp2_with fail
                go_ret3
                exact ⟨.slice none 0 0, by rw [HE.out]; first | rfl | (simp only [hw]; rfl), by rw [HE.out]; exact HNl.out _, HIb.out.low⟩
              · obtain rfl : c = 0 := HG.out.2.symm.trans p2
                have HP := Lib.hid (show parG x = some ⟨(t, q, r), o, id, nm, a, vl⟩ from by rw [← HG.out.1, p1]; rfl)
                clear p1 p2
                have HE := Lib.hid (rd_on HI.out.sz HZ.out H1.out HX.out.1 (by rw [HX.out.2.1]; exact HP.out))
                rw [HX.out.2.2] at HE
                have c0 := Csn.KbC.cell (i := 0) HKb.out rfl
                have c1 := Csn.KbC.cell (i := 1) HKb.out rfl
                have c2 := Csn.KbC.cell (i := 2) HKb.out rfl
                have c3 := Csn.KbC.cell (i := 3) HKb.out rfl
                have c4 := Csn.KbC.cell (i := 4) HKb.out rfl
                have c5 := Csn.KbC.cell (i := 5) HKb.out rfl
                have c6 := Csn.KbC.cell (i := 6) HKb.out rfl
                have c7 := Csn.KbC.cell (i := 7) HKb.out rfl
                have HOn := Lib.hid (ch_one (w2.alloc (chB ⟨(t, q, r), o, id, nm, a, vl⟩)) ⟨(t, q, r), o, id, nm, a, vl⟩)
                rw [chB_is, World.size_alloc] at HOn
                have HSz := Lib.hid (show w.heap.size ≤ ((w2.alloc (.cells #[.int .i64 t, .int .i64 q, .int .i64 r, .int .i64 o, .string id, .string nm, .string a, .string vl] 26)).alloc (.cells #[.int .i64 t, .int .i64 q, .int .i64 r, .int .i64 o, .string id, .string nm, .string a, .string vl] 26)).heap.size from by have := HI.out.low.size; simp; omega)
                have HO2 := Lib.hid (own_below HIb.out.own (box_below (w2.alloc (.cells #[.int .i64 t, .int .i64 q, .int .i64 r, .int .i64 o, .string id, .string nm, .string a, .string vl] 26)) (.cells #[.int .i64 t, .int .i64 q, .int .i64 r, .int .i64 o, .string id, .string nm, .string a, .string vl] 26)))
                have HLo := Lib.hid (show Below w.heap.size w ((w2.alloc (.cells #[.int .i64 t, .int .i64 q, .int .i64 r, .int .i64 o, .string id, .string nm, .string a, .string vl] 26)).alloc (.cells #[.int .i64 t, .int .i64 q, .int .i64 r, .int .i64 o, .string id, .string nm, .string a, .string vl] 26)) from HIb.out.low.trans ((box_below _ _).mono HIb.out.low.size))
                have HOk := Lib.hid (HIb.out.ok.step (box_below (w2.alloc (.cells #[.int .i64 t, .int .i64 q, .int .i64 r, .int .i64 o, .string id, .string nm, .string a, .string vl] 26)) (.cells #[.int .i64 t, .int .i64 q, .int .i64 r, .int .i64 o, .string id, .string nm, .string a, .string vl] 26)))
                have HLe := Lib.hid (show out.length + 1 ≤ 1000000000 from by have := HI.out.len; omega)
                have HSy := Lib.hid (show y.size ≤ s.size from Nat.le_trans (Nat.le_of_lt HE.out.2.2) HI.out.us)
                have HEq := Lib.hid (HI.out.eq.trans HE.out.1)
                go_wp2_with (at_builtin; refine app_chs ((w2.alloc _).alloc _) HO2.out (.tmp 48) (.tmp 50) (some ⟨w2.heap.size + 1, 0, none⟩) 1 1 [⟨(t, q, r), o, id, nm, a, vl⟩] ?_ ?_ ?_ ?_ ?_ ?_ ?_ ?_; exact rfl; exact rfl; exact rfl; exact rfl; exact HOn.out; exact HLe.out; (show w.heap.size ≤ ((w2.heap.push _).push _).size; exact HSz.out); intro v3 W3 hown3 hb3)
                rw [← chcells_app] at hown3
                obtain ⟨lo', lc', rfl⟩ := row_slice hown3
                go_roundw
                case rel => exact ⟨k - 1, y, out ++ [⟨(t, q, r), o, id, nm, a, vl⟩], n + 1, lo', lc', by first | rfl | (rw [hy]), by rw [HN.out]; simp, by rw [HN.out], Lib.hid ⟨HLo.out.trans hb3, by rw [HN.out]; simpa using hown3, HOk.out.keep HO.out (Nat.le_refl _) hb3, HEq.out, HE.out.2.1, HSy.out, by have := H1.out; simp; omega⟩⟩
                case measure => exact HE.out.2.2
        · have g1 : decide ((i : Int) < (u.size : Int)) = false := decide_eq_false (by omega)
          obtain rfl : i = u.size := by omega
          have HX := Lib.hid (nl_none (u := u) HNc.out)
          by_cases h1 : 4096 ≤ n
          · have d1 : (4096 : Int) ≤ (n : Int) := by omega
            have HE := Lib.hid (HI.out.eq.trans (rd_many HI.out.sz HZ.out (by rw [← HN.out]; exact h1)))
            rw [← HN.out] at HE
            clear h1
            go_wp2_with fail
            go_ret3
            exact ⟨.slice none 0 0, by rw [HE.out]; first | rfl | (simp only [hw]; rfl), by rw [HE.out]; exact HNl.out _, HI.out.low⟩
          · have d1 : ¬ (4096 : Int) ≤ (n : Int) := by omega
            have HE := Lib.hid (HI.out.eq.trans (rd_open HI.out.sz HZ.out (by rw [← HN.out]; exact h1) HX.out))
            rw [← HN.out] at HE
            have q2 : ((u.size : Int) == (u.size : Int)) = true := by simp
            clear h1
            go_wp2_with fail
            go_ret3
            exact ⟨.slice none 0 0, by rw [HE.out]; first | rfl | (simp only [hw]; rfl), by rw [HE.out]; exact HNl.out _, HI.out.low⟩
end Go.Proofs.YtbkignlbcneddaaGreatDoor
end
