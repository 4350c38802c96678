/-
  Proved: identitylaw19.JournalLimits returns true for every byte and every int (the tied card). No condition beyond the row's own.
-/
import Derived.Test.YtafecnaeoeanmaaDoorJouW
import Derived.Lib.MinMax
import Derived.StillTailTactics
set_option linter.unusedVariables false
set_option linter.unusedSimpArgs false
set_option linter.unnecessarySimpa false
namespace Go.Proofs.YtafecnaeoeanmaaDoor
open Go.ChangeShapes Go.WideShapes Go.ChangeAt Go.RowKit Go.PlainAid
open Go.ChangeMaps (open_string shut_string)

/-- the bytes so far -/
def bk (c : Int) (m i : Nat) : List Value := List.replicate i (.int .u8 c) ++ List.replicate (m - i) (.int .u8 0)
theorem bk_set (c : Int) (m i : Nat) (h : i < m) : (bk c m i).toArray.setIfInBounds i (.int .u8 c) = (bk c m (i + 1)).toArray := by
  rw [List.setIfInBounds_toArray]
  congr 1
  unfold bk
  rw [List.set_append_right _ _ (by rw [List.length_replicate]; exact Nat.le_refl _), List.length_replicate, Nat.sub_self, show m - i = (m - (i + 1)) + 1 by omega, List.replicate_succ, List.set_cons_zero, List.replicate_succ' (n := i), List.append_assoc]
  rfl
theorem bk_len (c : Int) (m i : Nat) (h : i ≤ m) : (bk c m i).length = m := by
  unfold bk; rw [List.length_append, List.length_replicate, List.length_replicate]; omega
theorem bk_at (c : Int) (m i : Nat) (h : i < m) : (bk c m i)[i]? = some (.int .u8 0) := by
  unfold bk
  rw [List.getElem?_append_right (by rw [List.length_replicate]; exact Nat.le_refl _), List.length_replicate, Nat.sub_self, List.getElem?_replicate, if_pos (by omega)]
theorem bk_end (c : UInt8) (m j : Nat) (h : j < (List.replicate m c).length) : (bk (c.toNat : Int) m m).toArray[j]? = some (.int .u8 (((List.replicate m c)[j]'h).toNat : Int)) := by
  rw [List.length_replicate] at h
  unfold bk
  rw [Nat.sub_self, List.replicate_zero, List.append_nil]
  simp [h]
def strN (m : Nat) (c : UInt8) : ByteArray := ⟨(List.replicate m c).toArray⟩
theorem strN_size (m : Nat) (c : UInt8) : (strN m c).size = m := by unfold strN; rw [Lib.size_mk, List.length_replicate]
theorem bk_conv {V : World} {g m : Nat} {c : UInt8} (h : KbC V g (.cells (bk (c.toNat : Int) m m).toArray 5)) : (convert 46 9 (.slice (some ⟨g, 0, none⟩) m m)).run Tryd.prog V = .ok (.string (strN m c)) V := by
  have := run_convert_bytes_back (P := Tryd.prog) V 46 9 5 ⟨g, 0, none⟩ m (List.replicate m c) Tryd.underlying46 Tryd.underlying5 Tryd.underlying9 (fun j hj => by
    rw [Go.WideShapes.add_plain, Nat.zero_add]
    exact h.cell (bk_end c m j hj))
  rw [List.length_replicate] at this
  exact this
/-- what is kept to the end -/
structure LmI (w : World) (b : Nat) (v : Value) (g m : Nat) (c : UInt8) (ug : Nat) (V : World) : Prop where
  low : Below w.heap.size w V
  j : JA V w.heap.size b [strN m c] 1 v
  bts : KbC V g (.cells (bk (c.toNat : Int) m m).toArray 5)
  lt : ug < V.heap.size
  el : V.cell? ⟨ug, 0, none⟩ = some (.string (strN m c))
theorem LmI.step {w V X : World} {b g m ug : Nat} {v : Value} {c : UInt8} (h : LmI w b v g m c ug V) (hb : Below V.heap.size V X) : LmI w b v g m c ug X :=
  ⟨h.low.trans (hb.mono h.low.size), h.j.step hb, h.bts.step hb, Nat.lt_of_lt_of_le h.lt hb.size, (hb.cell (p := ⟨ug, 0, none⟩) h.lt).trans h.el⟩
theorem info_u8 : (Tryd.prog.info? 5).map (fun i => (i.zero, i.size, i.bytes)) = some (some (.int .u8 0), 1, 1) := by kernel_rfl
theorem kbc_mv {V X : World} {b g : Nat} {v v' : Value} {o : Obj} (h : KbC V g o) (hm : Mv b v v' V X) (h1 : g ≠ b) (h2 : v.ownBlock ≠ some g) : KbC X g o := (hm.block g h.big h1 h2).trans h
theorem far_mv {V X : World} {b g : Nat} {v v' : Value} {o : Obj} (h : KbC V g o) (hm : Mv b v v' V X) (h2 : v.ownBlock ≠ some g) : v'.ownBlock ≠ some g := by
  rcases hm.at_ with k | k
  · rw [k]; exact h2
  · intro e
    have := k g e
    have := h.big
    omega
theorem one_dec {r q : ByteArray} (hr : r.size ≤ 4096) (hq : encS r = q) : decS q = [r] ∧ szS [r] = q.size ∧ encsS ([r].take 1) = q := by
  have e : encsS [r] = q := by rw [encsS_one, hq]
  refine ⟨?_, ?_, e⟩
  · rw [← e]
    exact decS_encs fun x hx => by rw [List.mem_singleton.1 hx]; exact hr
  · unfold szS; rw [e]
theorem bytes_k (B b d : Nat) (l : List ByteArray) (v : Value) (q : ByteArray) (w : World) (h : JA w B b l d v) (ho : WJ w) (hq : encsS (l.take d) = q) :
    Calls Tryd.prog 22 #[.pointer (some ⟨b, 0, none⟩)] w fun e w' => e = .returned (.string q) ∧ Below w.heap.size w w' := by subst hq; exact bytes_s B b d l v w h ho
set_option maxRecDepth 100000 in
set_option maxHeartbeats 2000000 in
theorem limits_s (c : Int) (n : Int) (w : World) (hc : (Lit.int .u8 c).wf = true) (hn : (Lit.int .i64 n).wf = true) (ho : WJ w) :
    Calls Tryd.prog 5 #[.int .u8 c, .int .i64 n] w fun e w' => e = .returned (.bool true) ∧ Below w.heap.size w w' := by
  have HW := Lib.hid (Below.refl w.heap.size w)
  have HO := Lib.hid ho
  clear ho
  obtain ⟨n1, n2⟩ := int_range hn
  obtain ⟨cb, rfl⟩ := u8_byte hc
  clear hn hc
  obtain ⟨m, hm⟩ : ∃ m, (max 0 (min n 5000)).toNat = m := ⟨_, rfl⟩
  have m1 : max 0 (min n 5000) = (m : Int) := by omega
  have m2 : m ≤ 5000 := by omega
  clear hm
  obtain ⟨i0, hi0, hz0, hz1, hz2⟩ := info_parts info_u8
  go_enter Tryd.func5, Tryd.ntmps5
  go_wp2_with fail
  refine (new_s _ HO.out).mono ?_
  rintro e w1 ⟨b, v, rfl, hj, hb⟩
  have HJ := Lib.hid hj
  have HJ0 := HJ
  have HW := Lib.hid hb
  clear hj hb
  go_wp2_with (at_make; go_loud (refine wpList_make_full _ rfl _ _ 46 rfl w1.heap.size 5 i0 _ 1 Tryd.underlying46 hi0 hz0 hz1 .i64 .i64 (m : Int) (m : Int) m rfl rfl rfl rfl (by rw [hz2]; omega) (by unfold maxLen; omega) (Nat.le_refl _) ?_); intro w2 hown hg; have hown1 := own_full hown; have HG := Lib.hid (show Below w1.heap.size w1 w2 from (Below.refl _ _).grown hg (Nat.le_refl _) (fun k hk => by cases hk)); have HK := Lib.hid (show KbC w2 w1.heap.size (.cells (bk (cb.toNat : Int) m 0).toArray 5) from by have e : (madeCells (Value.cells (.int .u8 0)) (m * 1)).toList = bk (cb.toNat : Int) m 0 := (by rw [Nat.mul_one]; show (madeCells #[.int .u8 0] m).toList = _; rw [toList_madeCells_one]; unfold bk; simp); rw [e] at hown1; exact hown1); clear hown hg hown1)
  go_loopw [7] (fun iv wr => ∃ i : Nat, i ≤ m ∧ iv = .int .i64 i ∧ Hid (KbC wr w1.heap.size (.cells (bk (cb.toNat : Int) m i).toArray 5)) ∧ Hid (Below w1.heap.size w1 wr)) (fun iv _ => m - (intOf iv).toNat)
  case atStart => exact ⟨0, Nat.zero_le _, rfl, HK, HG⟩
  case round =>
    clear HK HG
    obtain ⟨i, hi, rfl, HK, HG⟩ := hrel
    by_cases hlt : i < m
    · have e1 : decide ((i : Int) < (m : Int)) = true := decide_eq_true (by omega)
      have e1' : (i : Int) < (m : Int) := by omega
      have hcell : wr.cell? ⟨w1.heap.size, i, none⟩ = some (.int .u8 0) := HK.out.cell (by rw [List.getElem?_toArray]; exact bk_at _ m i hlt)
      have hfr : wr.frozen? ⟨w1.heap.size, i, none⟩ = false := HK.out.frz
      have HK2 := Lib.hid (show KbC (wr.setCell ⟨w1.heap.size, i, none⟩ (.int .u8 (cb.toNat : Int))) w1.heap.size (.cells (bk (cb.toNat : Int) m (i + 1)).toArray 5) from by rw [← bk_set _ m i hlt]; exact HK.out.set _)
      have HG2 := Lib.hid (show Below w1.heap.size w1 (wr.setCell ⟨w1.heap.size, i, none⟩ (.int .u8 (cb.toNat : Int))) from HG.out.setCell (p := ⟨w1.heap.size, i, none⟩) (Nat.le_refl _) _)
      go_wp2_with fail
      go_roundw
      case rel => exact ⟨i + 1, by omega, by go_num, HK2, HG2⟩
      case measure => simp [intOf]; omega
    · have e1 : decide ((i : Int) < (m : Int)) = false := decide_eq_false (by omega)
      have e1' : ¬ (i : Int) < (m : Int) := by omega
      obtain rfl : i = m := by omega
      have hconv := bk_conv HK.out
      have hrs := strN_size i cb
      obtain ⟨r, hr⟩ : ∃ r, strN i cb = r := ⟨_, rfl⟩
      rw [hr] at hconv hrs
      have HJ := Lib.hid (HJ.out.step HG.out)
      have HW := Lib.hid (HW.out.trans (HG.out.mono HW.out.size))
      have HF := Lib.hid (show w1.heap.size ≠ b ∧ v.ownBlock ≠ some w1.heap.size from ⟨fun e => by have := HJ0.out.blk.big; omega, fun e => by have := (HJ0.out.row.lt _ e).2; omega⟩)
      by_cases hbig : 4096 < i
      · have e2 : decide ((4096 : Int) < (i : Int)) = true := decide_eq_true (by omega)
        go_wp2_with fail
        clear hconv
        refine (append_no _ b 0 [] v r _ HJ.out (.inl (by omega))).mono ?_
        rintro e w' ⟨rfl, rfl⟩
        go_wp2_with fail
        refine (records_s _ b 0 [] v _ HJ.out).mono ?_
        rintro e w3 ⟨u, rfl, hu, hb⟩
        obtain ⟨ua, uc, hu'⟩ := row_slice hu
        subst hu'
        have HW := Lib.hid (HW.out.trans (hb.mono HW.out.size))
        clear hu hb
        go_wp2_with fail
        refine (live_s _ (HO.out.at HW.out)).mono ?_
        rintro e w9 ⟨rfl, hb⟩
        have HW := Lib.hid (HW.out.trans (hb.mono HW.out.size))
        clear hb
        go_wp2_with fail
        go_ret
        exact ⟨rfl, HW.out⟩
      · have e2 : decide ((4096 : Int) < (i : Int)) = false := decide_eq_false (by omega)
        obtain ⟨q, hq⟩ : ∃ q, encS r = q := ⟨_, rfl⟩
        have HQ := Lib.hid (one_dec (r := r) (by omega) hq)
        have hq1 : q.size ≤ 1000000 := by rw [← hq]; have := encS_le r; omega
        have q1 : ((q.size : Int) == (q.size : Int)) = true := by simp
        have q2 : (r.toList == r.toList) = true := by simp
        clear hq
        go_wp2_with fail
        clear hconv
        refine (append_yes _ b 0 [] v r _ HJ.out (by omega) (by decide)).mono ?_
        rintro e w3 ⟨rfl, v3, hj, hm⟩
        have HW := Lib.hid (HW.out.trans (hm.below HJ.out))
        have HFo := HF
        have HF := Lib.hid (show w1.heap.size ≠ b ∧ v3.ownBlock ≠ some w1.heap.size from ⟨HF.out.1, far_mv HK.out hm HF.out.2⟩)
        have HK := Lib.hid (kbc_mv HK.out hm HFo.out.1 HFo.out.2)
        have HJ := Lib.hid (show JA _ _ _ [r] 0 _ from hj)
        clear hj hm
        go_wp2_with fail
        refine (sync_s _ b 0 [r] v3 _ HJ.out).mono ?_
        rintro e w4 ⟨rfl, hj, hm⟩
        have HW := Lib.hid (HW.out.trans (hm.below HJ.out))
        have HK := Lib.hid (kbc_mv HK.out hm HF.out.1 HF.out.2)
        have HJ := Lib.hid (show JA _ _ _ [r] 1 _ from hj)
        clear hj hm
        go_wp2_with fail
        refine (bytes_s _ b 1 [r] v3 _ HJ.out (HO.out.at HW.out)).mono ?_
        rintro e w5 ⟨rfl, hb⟩
        rw [HQ.out.2.2]
        have HW := Lib.hid (HW.out.trans (hb.mono HW.out.size))
        have HK := Lib.hid (HK.out.step hb)
        have HJ := Lib.hid (HJ.out.step hb)
        clear hb
        go_wp2_with fail
        refine (decode_k q [r] q.size _ (by omega) (HO.out.at HW.out) HQ.out.1 HQ.out.2.1).mono ?_
        rintro e w6 ⟨u, rfl, hu, hb⟩
        obtain ⟨ug, uc, hu', hug⟩ := hu.form (Nat.zero_lt_succ 0)
        subst hu'
        have HL := Lib.hid (hu.cells rfl 0 _ rfl)
        have HX := Lib.hid (show LmI w b v3 w1.heap.size i cb ug w6 from ⟨HW.out.trans (hb.mono HW.out.size), by rw [hr]; exact HJ.out.step hb, HK.out.step hb, hug.2, by rw [hr]; exact HL.out⟩)
        clear hu hb hug
        go_wp2_with fail
        have HSt := Lib.hid (show ∀ V, LmI w b v3 w1.heap.size i cb ug V → V.cell? ⟨ug, 0, none⟩ = some (.string r) ∧ (convert 46 9 (.slice (some ⟨w1.heap.size, 0, none⟩) i i)).run Tryd.prog V = .ok (.string r) V ∧ Hid (LmI w b v3 w1.heap.size i cb ug V) from fun V h => ⟨by rw [← hr]; exact h.el, by rw [← hr]; exact bk_conv h.bts, Lib.hid h⟩)
        have HX := Lib.hid (HX.out.step (Below.refl _ _).drew)
        have S0 := HSt.out _ HX.out
        have HRr := Lib.hid hr
        clear hr
        refine wp_region_held_drew (S := fun V => V.cell? ⟨ug, 0, none⟩ = some (.string r) ∧ (convert 46 9 (.slice (some ⟨w1.heap.size, 0, none⟩) i i)).run Tryd.prog V = .ok (.string r) V ∧ Hid (LmI w b v3 w1.heap.size i cb ug V)) (by kernel_rfl) (S0) (fun hS => ?_)
        refine wpAnyH_take (i := 0) (oi := { dst := some 53, op := _, type := _, pos := _, after := _, guard := _ }) (v := ?_) rfl (by kernel_rfl) (by kernel_rfl) (by kernel_rfl) (fun _ _ _ h => h) (Or.inl ⟨by rfl, ?_⟩) (by assumption) ?_
        rotate_left
        · intro w hSw
          try dsimp only at hSw
          go_simp
          try with_reducible rfl
        try simp only [Act.put, List.setIfInBounds_toArray, List.set_cons_zero, List.set_cons_succ]
        refine wpAnyH_take (i := 1) (oi := { dst := some 54, op := _, type := _, pos := _, after := _, guard := _ }) (v := ?_) rfl (by kernel_rfl) (by kernel_rfl) (by kernel_rfl) (fun _ _ _ h => h) (Or.inl ⟨by rfl, ?_⟩) (by assumption) ?_
        rotate_left
        · intro w hSw
          try dsimp only at hSw
          go_simp
          try with_reducible rfl
        try simp only [Act.put, List.setIfInBounds_toArray, List.set_cons_zero, List.set_cons_succ]
        refine wpAnyH_take (i := 2) (oi := { dst := some 55, op := _, type := _, pos := _, after := _, guard := _ }) (v := ?_) rfl (by kernel_rfl) (by kernel_rfl) (by kernel_rfl) (fun _ _ _ h => h) (Or.inl ⟨by rfl, ?_⟩) (by assumption) ?_
        rotate_left
        · intro w hSw
          try dsimp only at hSw
          go_simp
          try with_reducible rfl
        try simp only [Act.put, List.setIfInBounds_toArray, List.set_cons_zero, List.set_cons_succ]
        refine wpAnyH_take (i := 3) (oi := { dst := some 56, op := _, type := _, pos := _, after := _, guard := _ }) (v := ?_) rfl (by kernel_rfl) (by kernel_rfl) (by kernel_rfl) (fun _ _ _ h => h) (Or.inl ⟨by rfl, ?_⟩) (by assumption) ?_
        rotate_left
        · intro w hSw
          try dsimp only at hSw
          go_simp
          try with_reducible rfl
        try simp only [Act.put, List.setIfInBounds_toArray, List.set_cons_zero, List.set_cons_succ]
        refine wpAnyH_take (i := 4) (oi := { dst := some 57, op := _, type := _, pos := _, after := _, guard := _ }) (v := ?_) rfl (by kernel_rfl) (by kernel_rfl) (by kernel_rfl) (fun _ _ _ h => h) (Or.inl ⟨by rfl, ?_⟩) (by assumption) ?_
        rotate_left
        · intro w hSw
          try dsimp only at hSw
          go_simp
          try with_reducible rfl
        try simp only [Act.put, List.setIfInBounds_toArray, List.set_cons_zero, List.set_cons_succ]
        refine wpAnyH_take (i := 5) (oi := { dst := some 58, op := _, type := _, pos := _, after := _, guard := _ }) (v := ?_) rfl (by kernel_rfl) (by kernel_rfl) (by kernel_rfl) (fun _ _ _ h => h) (Or.inl ⟨by rfl, ?_⟩) (by assumption) ?_
        rotate_left
        · intro w hSw
          try dsimp only at hSw
          go_simp
          try with_reducible rfl
        try simp only [Act.put, List.setIfInBounds_toArray, List.set_cons_zero, List.set_cons_succ]
        refine wpAnyH_take (i := 6) (oi := { dst := some 59, op := _, type := _, pos := _, after := _, guard := _ }) (v := ?_) rfl (by kernel_rfl) (by kernel_rfl) (by kernel_rfl) (fun _ _ _ h => h) (Or.inl ⟨by rfl, ?_⟩) (by assumption) ?_
        rotate_left
        · intro w hSw
          try dsimp only at hSw
          go_simp
          try with_reducible rfl
        try simp only [Act.put, List.setIfInBounds_toArray, List.set_cons_zero, List.set_cons_succ]
        refine wpAnyH_take (i := 7) (oi := { dst := some 60, op := _, type := _, pos := _, after := _, guard := _ }) (v := ?_) rfl (by kernel_rfl) (by kernel_rfl) (by kernel_rfl) (fun _ _ _ h => h) (Or.inl ⟨by rfl, ?_⟩) (by assumption) ?_
        rotate_left
        · intro w hSw
          try dsimp only at hSw
          go_simp
          try with_reducible rfl
        try simp only [Act.put, List.setIfInBounds_toArray, List.set_cons_zero, List.set_cons_succ]
        refine wpAnyH_take (i := 8) (oi := { dst := some 61, op := _, type := _, pos := _, after := _, guard := _ }) (v := ?_) rfl (by kernel_rfl) (by kernel_rfl) (by kernel_rfl) (fun _ _ _ h => h) (Or.inl ⟨by rfl, ?_⟩) (by assumption) ?_
        rotate_left
        · intro w hSw
          try dsimp only at hSw
          go_simp
          try with_reducible rfl
        try simp only [Act.put, List.setIfInBounds_toArray, List.set_cons_zero, List.set_cons_succ]
        refine wpAnyH_take (i := 9) (oi := { dst := some 62, op := _, type := _, pos := _, after := _, guard := _ }) (v := ?_) rfl (by kernel_rfl) (by kernel_rfl) (by kernel_rfl) (fun _ _ _ h => h) (Or.inl ⟨by rfl, ?_⟩) (by assumption) ?_
        rotate_left
        · intro w hSw
          try dsimp only at hSw
          go_simp
          try with_reducible rfl
        try simp only [Act.put, List.setIfInBounds_toArray, List.set_cons_zero, List.set_cons_succ]
        refine wpAnyH_take (i := 10) (oi := { dst := some 63, op := _, type := _, pos := _, after := _, guard := _ }) (v := ?_) rfl (by kernel_rfl) (by kernel_rfl) (by kernel_rfl) (fun _ _ _ h => h) (Or.inl ⟨by rfl, ?_⟩) (by assumption) ?_
        rotate_left
        · intro w hSw
          try dsimp only at hSw
          go_simp
          try with_reducible rfl
        try simp only [Act.put, List.setIfInBounds_toArray, List.set_cons_zero, List.set_cons_succ]
        refine wpAnyH_take (i := 11) (oi := { dst := some 64, op := _, type := _, pos := _, after := _, guard := _ }) (v := ?_) rfl (by kernel_rfl) (by kernel_rfl) (by kernel_rfl) (fun _ _ _ h => h) (Or.inl ⟨by rfl, ?_⟩) (by assumption) ?_
        rotate_left
        · intro w hSw
          try dsimp only at hSw
          go_simp
          try with_reducible rfl
        try simp only [Act.put, List.setIfInBounds_toArray, List.set_cons_zero, List.set_cons_succ]
        refine wpAnyH_take (i := 12) (oi := { dst := some 65, op := _, type := _, pos := _, after := _, guard := _ }) (v := ?_) rfl (by kernel_rfl) (by kernel_rfl) (by kernel_rfl) (fun _ _ _ h => h) (Or.inl ⟨by rfl, ?_⟩) (by assumption) ?_
        rotate_left
        · intro w hSw
          try dsimp only at hSw
          go_simp
          try with_reducible rfl
        try simp only [Act.put, List.setIfInBounds_toArray, List.set_cons_zero, List.set_cons_succ]
        refine wpAnyH_take (i := 13) (oi := { dst := some 66, op := _, type := _, pos := _, after := _, guard := _ }) (v := ?_) rfl (by kernel_rfl) (by kernel_rfl) (by kernel_rfl) (fun _ _ _ h => h) (Or.inl ⟨by rfl, ?_⟩) (by assumption) ?_
        rotate_left
        · intro w hSw
          try dsimp only at hSw
          go_simp
          try with_reducible rfl
        try simp only [Act.put, List.setIfInBounds_toArray, List.set_cons_zero, List.set_cons_succ]
        refine wpAnyH_take (i := 14) (oi := { dst := some 67, op := _, type := _, pos := _, after := _, guard := _ }) (v := ?_) rfl (by kernel_rfl) (by kernel_rfl) (by kernel_rfl) (fun _ _ _ h => h) (Or.inl ⟨by rfl, ?_⟩) (by assumption) ?_
        rotate_left
        · intro w hSw
          try dsimp only at hSw
          go_simp
          try with_reducible rfl
        try simp only [Act.put, List.setIfInBounds_toArray, List.set_cons_zero, List.set_cons_succ]
        refine wpAnyH_take (i := 15) (oi := { dst := some 68, op := _, type := _, pos := _, after := _, guard := _ }) (v := ?_) rfl (by kernel_rfl) (by kernel_rfl) (by kernel_rfl) (fun _ _ _ h => h) (Or.inl ⟨by rfl, ?_⟩) (by assumption) ?_
        rotate_left
        · intro w hSw
          try dsimp only at hSw
          go_simp
          try with_reducible rfl
        try simp only [Act.put, List.setIfInBounds_toArray, List.set_cons_zero, List.set_cons_succ]
        refine wpAnyH_take (i := 16) (oi := { dst := some 69, op := _, type := _, pos := _, after := _, guard := _ }) (v := ?_) rfl (by kernel_rfl) (by kernel_rfl) (by kernel_rfl) (fun _ _ _ h => h) (Or.inl ⟨by rfl, ?_⟩) (by assumption) ?_
        rotate_left
        · intro w hSw
          try dsimp only at hSw
          go_simp
          try with_reducible rfl
        try simp only [Act.put, List.setIfInBounds_toArray, List.set_cons_zero, List.set_cons_succ]
        refine wpAnyH_take (i := 17) (oi := { dst := some 70, op := _, type := _, pos := _, after := _, guard := _ }) (v := ?_) rfl (by kernel_rfl) (by kernel_rfl) (by kernel_rfl) (fun _ _ _ h => h) (Or.inl ⟨by rfl, ?_⟩) (by assumption) ?_
        rotate_left
        · intro w hSw
          try dsimp only at hSw
          go_simp
          try with_reducible rfl
        try simp only [Act.put, List.setIfInBounds_toArray, List.set_cons_zero, List.set_cons_succ]
        refine wpAnyH_ready (rs := [18]) (by kernel_rfl) (by simp) ?_
        refine AllReadyH.cons rfl (fun K hK => ?_) AllReadyH.nil
        go_simp
        refine (bytes_k _ b 1 _ v3 q _ HX.out.j (HO.out.at HX.out.low) (by rw [HRr.out]; exact HQ.out.2.2)).mono ?_
        rintro e w7 ⟨rfl, hb⟩
        have HX := Lib.hid (HX.out.step hb)
        clear hb
        go_wp2_with fail
        refine hK.out _ _ ?_ (fun hHeld => ?_)
        · exact HSt.out _ HX.out
        clear hK K
        try simp only [Act.put, List.setIfInBounds_toArray, List.set_cons_zero, List.set_cons_succ]
        refine wpAnyH_take (i := 19) (oi := { dst := some 72, op := _, type := _, pos := _, after := _, guard := _ }) (v := ?_) rfl (by kernel_rfl) (by kernel_rfl) (by kernel_rfl) (fun _ _ _ h => h) (Or.inl ⟨by rfl, ?_⟩) (by assumption) ?_
        rotate_left
        · intro w hSw
          try dsimp only at hSw
          go_simp
          try with_reducible rfl
        try simp only [Act.put, List.setIfInBounds_toArray, List.set_cons_zero, List.set_cons_succ]
        refine wpAnyH_take (i := 20) (oi := { dst := some 73, op := _, type := _, pos := _, after := _, guard := _ }) (v := ?_) rfl (by kernel_rfl) (by kernel_rfl) (by kernel_rfl) (fun _ _ _ h => h) (Or.inl ⟨by rfl, ?_⟩) (by assumption) ?_
        rotate_left
        · intro w hSw
          try dsimp only at hSw
          go_simp
          try with_reducible rfl
        try simp only [Act.put, List.setIfInBounds_toArray, List.set_cons_zero, List.set_cons_succ]
        refine wpAnyH_take (i := 21) (oi := { dst := some 74, op := _, type := _, pos := _, after := _, guard := _ }) (v := ?_) rfl (by kernel_rfl) (by kernel_rfl) (by kernel_rfl) (fun _ _ _ h => h) (Or.inl ⟨by rfl, ?_⟩) (by assumption) ?_
        rotate_left
        · intro w hSw
          try dsimp only at hSw
          go_simp
          try with_reducible rfl
        try simp only [Act.put, List.setIfInBounds_toArray, List.set_cons_zero, List.set_cons_succ]
        refine wpAnyH_take (i := 22) (oi := { dst := some 75, op := _, type := _, pos := _, after := _, guard := _ }) (v := ?_) rfl (by kernel_rfl) (by kernel_rfl) (by kernel_rfl) (fun _ _ _ h => h) (Or.inl ⟨by rfl, ?_⟩) (by assumption) ?_
        rotate_left
        · intro w hSw
          try dsimp only at hSw
          go_simp
          try with_reducible rfl
        try simp only [Act.put, List.setIfInBounds_toArray, List.set_cons_zero, List.set_cons_succ]
        refine wpAnyH_ready (rs := [23]) (by kernel_rfl) (by simp) ?_
        refine AllReadyH.cons rfl (fun K hK => ?_) AllReadyH.nil
        go_simp
        refine (live_s _ (HO.out.at HX.out.low)).mono ?_
        rintro e w8 ⟨rfl, hb⟩
        have HX := Lib.hid (HX.out.step hb)
        clear hb
        go_wp2_with fail
        refine hK.out _ _ ?_ (fun hHeld => ?_)
        · exact HSt.out _ HX.out
        clear hK K
        try simp only [Act.put, List.setIfInBounds_toArray, List.set_cons_zero, List.set_cons_succ]
        refine wpAnyH_take (i := 24) (oi := { dst := some 77, op := _, type := _, pos := _, after := _, guard := _ }) (v := ?_) rfl (by kernel_rfl) (by kernel_rfl) (by kernel_rfl) (fun _ _ _ h => h) (Or.inl ⟨by rfl, ?_⟩) (by assumption) ?_
        rotate_left
        · intro w hSw
          try dsimp only at hSw
          go_simp
          try with_reducible rfl
        try simp only [Act.put, List.setIfInBounds_toArray, List.set_cons_zero, List.set_cons_succ]
        refine wpAnyH_take (i := 25) (oi := { dst := some 4, op := _, type := _, pos := _, after := _, guard := _ }) (v := ?_) rfl (by kernel_rfl) (by kernel_rfl) (by kernel_rfl) (fun _ _ _ h => h) (Or.inl ⟨by rfl, ?_⟩) (by assumption) ?_
        rotate_left
        · intro w hSw
          try dsimp only at hSw
          go_simp
          try with_reducible rfl
        try simp only [Act.put, List.setIfInBounds_toArray, List.set_cons_zero, List.set_cons_succ]
        refine wpAnyH_done (by kernel_rfl) ?_ _
        go_wp2_with fail
        go_ret
        exact ⟨rfl, HX.out.low⟩

theorem limits_types : ∀ t ∈ [5, 3], Tryd.prog.readableRec t = true ∧ t < Tryd.prog.types.size := by
  have h : ([5, 3].all fun t => Tryd.prog.readableRec t && decide (t < Tryd.prog.types.size)) = true := by kernel_rfl
  intro t ht
  have := List.all_eq_true.1 h t ht
  simpa using this

set_option maxRecDepth 100000 in
theorem limits_contract (H : Type) (enc : TypeId × Value → H) (W : World) (base : Nat) (args : Array Value) (ds gs : List (DataW H)) (before : List MemPlace)
    (hval : ∀ (j : Nat) t v, Tryd.f5.params[j]? = some t → args[j]? = some v → Value.okWide Tryd.prog W .any base t v)
    (hW : DataW.Whole enc Tryd.prog Tryd.f5.params.toList Rows.journalLimitsSpec.vars false W args.toList ds gs before) (hL : laidMetH Tryd.prog Rows.journalLimitsRow.laid W) (hsh : W.ShapedOpen Tryd.prog) :
    Calls Tryd.prog 5 args W fun e W' => ∃ v, e = .returned v ∧ Rows.journalLimitsSpec.post enc Tryd.prog Tryd.f5 false true false false W args v W' := by
  have hW' := hW
  obtain ⟨p, q, hA0, hV, rfl, hfz, hnd⟩ := hW
  have hA : DataW.TrodAll enc Tryd.prog W 0 (fun _ => true) true Tryd.f5.params.toList args.toList ds p := hA0
  obtain ⟨rfl, rfl⟩ := trodVars_none hV
  simp only [List.append_nil] at hW'
  have hlt : ∀ x ∈ p, x.block < W.heap.size := fun x hx => by simpa using hW'.lt x hx
  have fin : ∀ W', Below W.heap.size W W' → DataW.TrodAll enc Tryd.prog W' 0 (fun b => decide (b < W.heap.size)) true [5, 3] args.toList ds p := fun W' hb => by
    rw [Tryd.params5] at hA
    exact trodAll_below hb _ _ _ _ limits_types hA hlt
  clear hA0
  rw [Tryd.params5] at hA hval
  obtain ⟨v0, vs0, d0, ds0, p0, q0, hargs, rfl, hp0, h0, r0⟩ := trodAll_cons hA
  obtain ⟨v1, vs1, d1, ds1, p1, q1, rfl, rfl, hp1, h1, r1⟩ := trodAll_cons r0
  obtain ⟨rfl, rfl, rfl⟩ := trodAll_nil r1
  obtain rfl : args = #[v0, v1] := by cases args; simp_all
  obtain ⟨c, rfl, rfl, rfl, hs0⟩ := open_int Tryd.underlying5 (hval 0 5 v0 rfl rfl) h0
  obtain ⟨n, rfl, rfl, rfl, hs1⟩ := open_int Tryd.underlying3 (hval 1 3 v1 rfl rfl) h1
  refine (limits_s c n W hs0 hs1 (wj_of hL hsh)).mono fun e W' ⟨he, hb⟩ => ?_
  subst he
  exact ⟨_, rfl, _, _, _, [], p, [], hW', trodAll_mk1 (shut_bool Tryd.underlying4 _), fin W' hb, rfl, hb.frame _, fun h => by cases h⟩

set_option maxRecDepth 100000 in
theorem limits_lifted (os : Os) (started : os.Started) (H : Type) (enc : TypeId × Value → H) (F : Stop.Interp) :
    ReturnsInHanded {} Tryd.checked os 5 .any ((OpenSpec.ofChange Rows.journalLimitsSpec).preRow enc Tryd.prog Tryd.f5 Rows.journalLimitsRow.domain false Rows.journalLimitsRow.laid) (((OpenSpec.ofChange Rows.journalLimitsSpec).at F).post enc Tryd.prog Tryd.f5 false true false false) := by
  refine returnsInHanded_of_row (C := Tryd.checked) (s := OpenSpec.ofChange Rows.journalLimitsSpec) own started (by kernel_rfl) Tryd.func5
    (witness_row (enc := enc) (C := Tryd.checked) false (World.laidAll Tryd.prog os Rows.journalLimitsRow.laid) #[.int .u8 0, .int .i64 0] (World.laidAll_os _ _ _)
      (World.shaped_of_ZipB (by kernel_rfl) (by kernel_rfl)) (by kernel_rfl)
      (OpenSpec.preRow_of_cond 8 (x := ([.lit (.int .u8 0), .lit (.int .i64 0)], [], [])) (by kernel_rfl) (by kernel_rfl) (fun k hk => by cases hk) (by kernel_rfl)
        (by rw [MakeChecks.laidMetH_plain _ _ _ (by kernel_rfl)]; exact laidMet_laidAll _ (by kernel_rfl) (by kernel_rfl)))) ?_
  intro W base args ds gs before hval hW _ _ _ hL hsh _
  exact limits_contract H enc W base args ds gs before hval hW hL hsh

set_option maxRecDepth 100000 in
theorem limits_said : Rows.JournalLimitsSaid :=
  OpenClaim.holds_of_cond 5 Tryd.f5 rfl rfl rfl rfl rfl rfl rfl ⟨rfl, rfl, rfl, rfl, rfl⟩ rfl rfl rfl rfl rfl (by kernel_rfl) Tryd.func5 (by kernel_rfl)
    (of_decide_eq_true (by kernel_rfl)) (by unfold Func.isWrapper; first | (rw [if_pos (by decide +kernel)]; kernel_rfl) | (rw [if_neg (by decide +kernel)]; exact ⟨rfl, rfl⟩))
    (fun os started H enc _ F => by rw [OpenClaim.pre_eq_preRow]; exact limits_lifted os started H enc F)

set_option maxRecDepth 100000 in
theorem limits_plain (f : FuncId) (fn : Func) (hf : Tryd.pinned.checked.prog.funcNamed "identity/identitylaw19.JournalLimits" = some f) (hfn : Tryd.pinned.checked.prog.funcs[f]? = some fn) :
    true = Tryd.pinned.checked.prog.looks [] ∧ ∀ (j : Nat) t, fn.params[j]? = some t → Tryd.pinned.checked.prog.wantsStandIn t = false := by
  obtain rfl : f = 5 := Option.some.inj ((show Tryd.prog.funcNamed "identity/identitylaw19.JournalLimits" = some 5 by kernel_rfl).symm.trans hf) |>.symm
  obtain rfl : fn = Tryd.f5 := (Option.some.inj (Tryd.func5.symm.trans hfn)).symm
  refine ⟨by kernel_rfl, fun j t ht => ?_⟩
  rw [Tryd.params5] at ht
  have hm : t ∈ [5, 3] := by simpa using Array.mem_of_getElem? ht
  have hall : ([5, 3].all fun u => !Tryd.prog.wantsStandIn u) = true := by kernel_rfl
  exact (show Tryd.prog.wantsStandIn t = false by simpa using List.all_eq_true.1 hall t hm)

/-- THE CARD -/
theorem limits_card : Rows.JournalLimitsCardSaid :=
  Claim7.holds_tied_plain_at .later [] _ _ _ _ limits_said (fun _ h => by cases h) (by kernel_rfl) (fun _ h => by cases h) journalLimits_row_tie rfl ⟨rfl, rfl⟩ (by kernel_rfl) rfl limits_plain (by kernel_rfl)
end Go.Proofs.YtafecnaeoeanmaaDoor
