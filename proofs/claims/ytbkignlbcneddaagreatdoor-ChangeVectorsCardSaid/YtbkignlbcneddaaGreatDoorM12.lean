/-
  Texts of the schema layer and of those beneath it, joined: CsnLaws, CsnR1, CsnR2. Conditions stand at each contract.
-/
import Derived.WalkKit
import Derived.ProofKit
import Derived.OpenShut
import Derived.Deep.DeepHandedRow
import Derived.Lay
import Derived.Shelf.Vars
import Derived.Lib.SmallJoins
import Derived.Deep.Slices
import Derived.Deep.Strs
import Derived.Lib.LaidTab
import Derived.Stop.LaidErr
import Derived.Test.YtbkignlbcneddaaGreatDoorCards
import Derived.Test.YtbkignlbcneddaaGreatDoorTie
import Derived.Test.YtbkignlbcneddaaGreatDoorM09
import Derived.Test.YtbkignlbcneddaaGreatDoorM11
set_option linter.unusedVariables false
set_option linter.unusedSimpArgs false
set_option linter.unnecessarySimpa false

section
/-
  What the proofs of csn's laws share: the witness at a world that lays the listed variables, the table's cell, numbers and lists of numbers that came in.
-/
set_option maxRecDepth 100000
namespace Go.Proofs.YtbkignlbcneddaaGreatDoor
namespace Csn
open Go.ChangeShapes Go.WideShapes Go.ChangeAt Go.RowKit
theorem own : ownKnob Tryz.prog.godebug = none := by kernel_rfl
theorem witness_row {H : Type} {enc : TypeId × Value → H} {C : Checked} {os : Os} {f : FuncId} {fn : Func} {s : OpenSpec} {conds : List PathCond} {apart : Bool} {laid : List (String × DataW Unit)} (modest : Bool) (w0 : World) (args : Array Value) (hos : w0.os = os)
    (hsh : (w0.forCall (fun _ _ => 0) ⟨#[], args, []⟩).Shaped C.prog)
    (hok : Input.okWideB C.prog (w0.forCall (fun _ _ => 0) ⟨#[], args, []⟩) f ⟨#[], args, []⟩ = true)
    (hrow : s.preRow enc C.prog fn conds apart laid (w0.forCall (fun _ _ => 0) ⟨#[], args, []⟩).memory args) :
    ∃ (w : World) (tape : Tape) (i : Input), w.os = os ∧ (w.forCall tape i).Shaped C.prog ∧ i.vars = [] ∧ Input.okWide C.prog (w.forCall tape i) .any w.heap.size f i ∧
      s.preRow enc C.prog fn conds apart laid (w.forCall tape i).memory i.args ∧ ({ modest := modest } : Assume).holds C.prog (lone (Frame.enter C.prog f i.args .normal) [] (w.forCall tape i)) :=
  ⟨w0, fun _ _ => 0, ⟨#[], args, []⟩, hos, hsh, (Input.okWide_of_okWideB (base := 0) hok).1, (Input.okWide_of_okWideB hok).2, hrow, by
    simp only [Assume.holds]
    exact ⟨by simp, by simp, fun _ => Modest.zero, by simp, by simp⟩⟩
theorem laidOut : laidOutB Tryz.prog = true := by kernel_rfl
/-- arguments that are only read read behind the call as before it -/
theorem trodAll_below {H : Type} {enc : TypeId × Value → H} {W W' : World} (hb : Below W.heap.size W W') : ∀ (ts : List TypeId) (vs : List Value) (ds : List (DataW H)) (ps : List MemPlace),
    (∀ t ∈ ts, Tryz.prog.readableRec t = true ∧ t < Tryz.prog.types.size) → DataW.TrodAll enc Tryz.prog W 0 (fun _ => true) true ts vs ds ps → (∀ x ∈ ps, x.block < W.heap.size) →
    DataW.TrodAll enc Tryz.prog W' 0 (fun b => decide (b < W.heap.size)) true ts vs ds ps
  | [], vs, ds, ps, _, h, _ => by
    obtain ⟨rfl, rfl, rfl⟩ := trodAll_nil h
    exact trodAll_mk0
  | t :: ts, vs, ds, ps, hr, h, hl => by
    obtain ⟨v, vs', d, ds', p, q, rfl, rfl, rfl, h0, r0⟩ := trodAll_cons h
    exact trodAll_cons_mk (Below.trod laidOut (hr t (by simp)).1 (hr t (by simp)).2 h0 hb (fun x hx => hl x (by simp [hx])))
      (trodAll_below hb ts vs' ds' q (fun t ht => hr t (by simp [ht])) r0 (fun x hx => hl x (by simp [hx])))
theorem max_ok {W : World} (h : W.ShapedOpen Tryz.prog) : MaxOk W :=
  cell_of_shapedOpen_int (zero := #[.int .i64 0]) (t := 3) h (of_decide_eq_true (by kernel_rfl)) (by kernel_rfl) rfl (by kernel_rfl) (by kernel_rfl) Tryz.underlying3
theorem wok_of {W : World} (hL : laidMetH Tryz.prog [("math/bits.deBruijn32tab", Rows.laid_math_bits_deBruijn32tab), ("math/bits.deBruijn64tab", Rows.laid_math_bits_deBruijn64tab), ("internal/strconv.uint64pow10", Rows.laid_internal_strconv_uint64pow10)] W) (hsh : W.ShapedOpen Tryz.prog) : WOk W := by
  rw [MakeChecks.laidMetH_plain _ _ _ (by kernel_rfl)] at hL
  refine ⟨max_ok hsh, ?_⟩
  have h : Lib.TabIs Tryz.prog W "math/bits.deBruijn64tab" .u8 [0, 1, 56, 2, 57, 49, 28, 3, 61, 58, 42, 50, 38, 29, 17, 4, 62, 47, 59, 36, 45, 43, 51, 22, 53, 39, 33, 30, 24, 18, 12, 5, 63, 55, 48, 27, 60, 41, 37, 16, 46, 35, 44, 21, 52, 32, 23, 11, 54, 26, 40, 15, 34, 20, 31, 10, 25, 14, 19, 9, 13, 8, 7, 6] := Lib.tabIs_of_head (g := 6) (by kernel_rfl) (by kernel_rfl) Tryz.underlying256 Tryz.underlying5 (by kernel_rfl) (by kernel_rfl) hL.tail
  exact h.cell (g := 6) (by kernel_rfl) 15 (by decide)
theorem cells_cn : Tryz.prog.cellsOf 23 = 3 := by kernel_rfl
set_option maxRecDepth 100000 in
/-- a number that came in -/
theorem open_cn {H : Type} {enc : TypeId × Value → H} {W : World} {base : Nat} {v : Value} {d : DataW H} {p : List MemPlace} (hval : Value.okWide Tryz.prog W .any base 23 v)
    (h0 : DataW.Trod enc Tryz.prog W 0 (fun _ => true) true 23 v d p) : ∃ u : Cn, v = cnV u := by
  obtain ⟨v0, v1, v2, y0, y1, y2, n, rfl, _, _, h1, h2, h3⟩ := Go.Joins.open_agg3 Tryz.underlying23 (by kernel_rfl) cells_cn hval h0
  obtain ⟨a, ha, _⟩ := DataW.trod_int Tryz.underlying3 h1
  obtain ⟨b, hb, _⟩ := DataW.trod_int Tryz.underlying3 h2
  obtain ⟨c, hc, _⟩ := DataW.trod_int Tryz.underlying3 h3
  simp only [List.cons.injEq, and_true] at ha hb hc
  rw [ha, hb, hc]
  exact ⟨(a, b, c), rfl⟩
theorem choose_cns {w : World} {b off len : Nat} (h : ∀ i, i < len → ∃ x y z : Int, w.cell? ⟨b, off + i * 3, none⟩ = some (.int .i64 x) ∧ w.cell? ⟨b, off + i * 3 + 1, none⟩ = some (.int .i64 y) ∧ w.cell? ⟨b, off + i * 3 + 2, none⟩ = some (.int .i64 z)) :
    ∃ ps : List Cn, ps.length = len ∧ ∀ i, i < len → w.cell? ⟨b, off + i * 3, none⟩ = some (.int .i64 (cnA ps i).1) ∧ w.cell? ⟨b, off + i * 3 + 1, none⟩ = some (.int .i64 (cnA ps i).2.1) ∧ w.cell? ⟨b, off + i * 3 + 2, none⟩ = some (.int .i64 (cnA ps i).2.2) := by
  induction len with
  | zero => exact ⟨[], rfl, fun i hi => absurd hi (Nat.not_lt_zero _)⟩
  | succ n ih =>
    obtain ⟨ps, hl, hp⟩ := ih (fun i hi => h i (by omega))
    obtain ⟨x, y, z, hx, hy, hz⟩ := h n (by omega)
    refine ⟨ps ++ [(x, y, z)], by simp [hl], fun i hi => ?_⟩
    by_cases e : i = n
    · subst e
      have e2 : cnA (ps ++ [(x, y, z)]) i = (x, y, z) := by
        unfold cnA
        rw [List.getD_eq_getElem?_getD, List.getElem?_append_right (by omega), hl]; simp
      rw [e2]; exact ⟨hx, hy, hz⟩
    · have e2 : cnA (ps ++ [(x, y, z)]) i = cnA ps i := by
        unfold cnA
        rw [List.getD_eq_getElem?_getD, List.getD_eq_getElem?_getD, List.getElem?_append_left (by omega)]
      rw [e2]; exact hp i (by omega)
set_option maxRecDepth 100000 in
/-- a list of numbers that came in -/
theorem open_cns {H : Type} {enc : TypeId × Value → H} {W : World} {base : Nat} {v : Value} {d : DataW H} {p : List MemPlace} (hval : Value.okWide Tryz.prog W .any base 43 v)
    (h0 : DataW.Trod enc Tryz.prog W 0 (fun _ => true) true 43 v d p) : ∃ ao n cap ps, v = .slice ao n cap ∧ CnsAt W ao n cap ps := by
  obtain ⟨a0, len, cap, rfl⟩ := okWide_slice Tryz.underlying43 hval
  obtain ⟨fuel, hf⟩ := h0
  rcases Go.Deep.open_slice Tryz.underlying43 hf with ⟨hcs, hx⟩ | ⟨a, len', cap', m, n, D, Pl, hcs, _, hl, hm, hmm, hx, hcell⟩
  · simp [Value.cells] at hcs
    obtain ⟨rfl, rfl, rfl⟩ := hcs
    exact ⟨none, 0, 0, [], rfl, cns_nil W⟩
  · simp [Value.cells] at hcs
    obtain ⟨rfl, rfl, rfl⟩ := hcs
    simp only [if_true] at hmm
    rw [hmm] at hcell
    have each : ∀ i, i < len → ∃ x y z : Int, W.cell? (a.add (i * 3)) = some (.int .i64 x) ∧ W.cell? (a.add (i * 3 + 1)) = some (.int .i64 y) ∧ W.cell? (a.add (i * 3 + 2)) = some (.int .i64 z) := by
      intro i hi
      obtain ⟨cs', h1, h2⟩ := hcell i (by omega)
      rw [cells_cn] at h1
      obtain ⟨_, hlen, hc⟩ := World.cells?_some h1
      obtain ⟨y0, y1, y2, k, _, _, t0, t1, t2⟩ := Go.Deep.trod_struct3 Tryz.underlying23 h2
      match cs', hlen with
      | [v0, v1, v2], _ =>
        obtain ⟨x, hx, _⟩ := DataW.trod_int Tryz.underlying3 (show DataW.trod enc Tryz.prog W 0 (fun _ => true) true k 3 [v0] = some y0 from t0)
        obtain ⟨y, hy, _⟩ := DataW.trod_int Tryz.underlying3 (show DataW.trod enc Tryz.prog W 0 (fun _ => true) true k 3 [v1] = some y1 from t1)
        obtain ⟨z, hz, _⟩ := DataW.trod_int Tryz.underlying3 (show DataW.trod enc Tryz.prog W 0 (fun _ => true) true k 3 [v2] = some y2 from t2)
        simp only [List.cons.injEq, and_true] at hx hy hz
        subst hx hy hz
        have e0 := hc 0 (by omega)
        have e1 := hc 1 (by omega)
        have e2 := hc 2 (by omega)
        rw [Go.Deep.add_add] at e0 e1 e2
        exact ⟨x, y, z, by simpa using e0, by simpa using e1, by simpa using e2⟩
    by_cases hn : 0 < len
    · obtain ⟨b, off, spot⟩ := a
      obtain ⟨_, _, _, h1, _, _⟩ := each 0 hn
      have hspot : spot = none := by simpa [Addr.add] using World.cell?_spot h1
      subst hspot
      have hb : b < W.heap.size := by
        rw [add_plain] at h1
        exact World.block_lt_of_cell? W _ h1
      obtain ⟨ps, hpl, hps⟩ := choose_cns (w := W) (b := b) (off := off) (len := len) (fun i hi => by
        obtain ⟨x, y, z, c0, c1, c2⟩ := each i hi
        rw [add_plain] at c0 c1 c2
        rw [← Nat.add_assoc] at c1 c2
        exact ⟨x, y, z, c0, c1, c2⟩)
      exact ⟨_, len, cap, ps, rfl, ⟨hpl, hl, hm, fun _ => ⟨b, off, rfl, hb, fun j hj => hps j (by omega)⟩, fun e => by cases e⟩⟩
    · exact ⟨_, len, cap, [], rfl, ⟨by simp; omega, hl, hm, fun h => absurd h hn, fun e => by cases e⟩⟩
/-! ### ints -/
def IntsAt (w : World) (ao : Option Addr) (n cap : Nat) (ps : List Int) : Prop :=
  ps.length = n ∧ n ≤ cap ∧ cap ≤ maxLen ∧ (0 < n → ∃ b off, ao = some ⟨b, off, none⟩ ∧ b < w.heap.size ∧ ∀ j, j < ps.length → w.cell? ⟨b, off + j, none⟩ = some (.int .i64 (ps.getD j 0)))
theorem IntsAt.below {w w' : World} {ao : Option Addr} {n cap : Nat} {ps : List Int} (h : IntsAt w ao n cap ps) (hb : Below w.heap.size w w') : IntsAt w' ao n cap ps :=
  ⟨h.1, h.2.1, h.2.2.1, fun hn => by
    obtain ⟨b, off, e, hi, hc⟩ := h.2.2.2 hn
    exact ⟨b, off, e, Nat.lt_of_lt_of_le hi hb.size, fun j hj => by rw [hb.cell (p := ⟨b, off + j, none⟩) hi]; exact hc j hj⟩⟩
/-! ### contracts with their arguments written out -/
theorem rcmp_k (a b c d e f x : Int) (w : World) (h : cmpC (a, b, c) (d, e, f) = x) :
    Calls Tryz.prog 34 #[.agg #[.int .i64 a, .int .i64 b, .int .i64 c], .agg #[.int .i64 d, .int .i64 e, .int .i64 f]] w fun q w' => q = .returned (.int .i64 x) ∧ Below w.heap.size w w' := by subst h; exact rcmp_s (a, b, c) (d, e, f) w
theorem vldb_k (a b c : Int) (r : Bool) (w : World) (h : vldC (a, b, c) = r) :
    Calls Tryz.prog 40 #[.agg #[.int .i64 a, .int .i64 b, .int .i64 c]] w fun q w' => q = .returned (.bool r) ∧ Below w.heap.size w w' := by
  subst h; exact (vld_s (a, b, c) w).mono fun q w' ⟨h1, h2⟩ => ⟨h1, h2 ▸ box_below w _⟩
theorem rvldb_k (a b c : Int) (r : Bool) (w : World) (h : vldC (a, b, c) = r) :
    Calls Tryz.prog 55 #[.agg #[.int .i64 a, .int .i64 b, .int .i64 c]] w fun q w' => q = .returned (.bool r) ∧ Below w.heap.size w w' := by
  subst h; exact (rvld_s (a, b, c) w).mono fun q w' ⟨h1, h2⟩ => ⟨h1, h2 ▸ box_below w _⟩
end Csn
end Go.Proofs.YtbkignlbcneddaaGreatDoor
end

section
/-
  Contract of the specification's Check. Condition: none beyond the list's own.
-/
set_option maxRecDepth 100000
set_option maxRecDepth 100000
namespace Go.Proofs.YtbkignlbcneddaaGreatDoor
namespace Csn
open Go.RowKit Go.PlainAid
set_option maxHeartbeats 8000000 in
theorem rcheck_s (ao : Option Addr) (n cap : Nat) (l : List Cn) (w : World) (h : CnsAt w ao n cap l) :
    Calls Tryz.prog 151 #[.slice ao n cap] w fun e w' => e = .returned (.int .i64 (chkC l)) ∧ Below w.heap.size w w' := by
  obtain ⟨h1, h2, h3, h4, h5⟩ := h
  subst h1
  unfold maxLen at h3
  have H4 := Lib.hid h4; clear h4 h5
  have HB0 := Lib.hid (Below.refl w.heap.size w)
  go_enter Tryz.func151, Tryz.ntmps151
  go_wp2_with fail
  go_loopw [3] (fun iv wr => ∃ i : Nat, i ≤ l.length ∧ iv = .int .i64 i ∧ Hid (∀ j, j < i → errC l j = 0) ∧ Hid (Below w.heap.size w wr)) (fun iv _ => l.length - (intOf iv).toNat)
  case atStart => exact ⟨0, Nat.zero_le _, rfl, Lib.hid (fun j hj => absurd hj (Nat.not_lt_zero _)), HB0⟩
  case round =>
    obtain ⟨i, hi, rfl, HE, HB⟩ := hrel
    by_cases hlt : i < l.length
    · have d1 : (i : Int) < (l.length : Int) := by omega
      have i0 : (0 : Int) ≤ (i : Int) := by omega
      obtain ⟨b, off, rfl, hs⟩ := H4.out (by omega)
      have HS := Lib.hid hs
      obtain ⟨c0, c1, c2⟩ := (hs.below HB.out hs.1).2 i hlt
      clear hs
      obtain ⟨⟨t, s, r⟩, hc⟩ : ∃ c, cnA l i = c := ⟨_, rfl⟩
      rw [hc] at c0 c1 c2
      dsimp only at c0 c1 c2
      have HC := Lib.hid hc
      clear hc
      have hv1 := rvld_k (t, s, r)
      dsimp only at hv1
      cases hv : vldC (t, s, r)
      · have HF := Lib.hid (chk_hit HE.out hlt (show errC l i = 2 by unfold errC; rw [HC.out, if_pos (fun k => by rw [(vldC_iff _).2 k] at hv; cases hv)]) (by decide))
        have HB2 := Lib.hid (below_allocs [cnB (t, s, r)] _ _ _ HB.out HB.out.size)
        go_wp2_with fail
        refine (hv1 _ _ hv).mono ?_
        rintro e w' ⟨rfl, rfl⟩
        go_wp2_with fail
        go_ret
        exact ⟨by rw [HF.out]; rfl, HB2.out⟩
      · have HV := Lib.hid ((vldC_iff _).1 hv)
        have HX := Lib.hid (below_allocs [cnB (t, s, r)] _ _ _ HB.out HB.out.size)
        unfold cnB at HX
        dsimp only [List.foldl] at HX
        go_wp2_with fail
        refine (hv1 _ _ hv).mono ?_
        rintro e w' ⟨rfl, rfl⟩
        generalize wr.alloc (.cells #[.int .i64 t, .int .i64 s, .int .i64 r] 23) = W1 at HX ⊢
        clear c0 c1 c2 hv hv1
        go_wp2_with fail
        go_loopw [4] (fun kv W => ∃ k : Nat, k ≤ i ∧ kv = .int .i64 k ∧ Hid (∀ j, j < k → ¬ (cnA l j).2.2 = r) ∧ Hid (Below w.heap.size w W)) (fun kv _ => i - (intOf kv).toNat)
        case atStart => exact ⟨0, Nat.zero_le _, rfl, Lib.hid (fun j hj => absurd hj (Nat.not_lt_zero _)), HX⟩
        case round =>
          obtain ⟨k, hk, rfl, HK, HW⟩ := hrel
          have c2 := ((HS.out.below HW.out HS.out.1).2 i hlt).2.2
          rw [HC.out] at c2
          dsimp only at c2
          by_cases hki : k < i
          · have e1 : (k : Int) < (i : Int) := by omega
            have e2 : (k : Int) < (l.length : Int) := by omega
            have e0 : (0 : Int) ≤ (k : Int) := by omega
            have p2 := ((HS.out.below HW.out HS.out.1).2 k (by omega)).2.2
            obtain ⟨r', hr'⟩ : ∃ q, (cnA l k).2.2 = q := ⟨_, rfl⟩
            rw [hr'] at p2
            have HR := Lib.hid hr'
            clear hr'
            have HBQ := Lib.hid (fun q => show Below w.heap.size w (wr.drewN q) from HW.out.trans ⟨rfl, rfl, rfl, Nat.le_refl _, fun _ _ => rfl⟩)
            by_cases q : r' = r
            · have HF := Lib.hid (chk_hit HE.out hlt (show errC l i = 7 by
                unfold errC; rw [HC.out, if_neg (fun q => q HV.out), if_pos (seenC_iff.2 ⟨k, hki, by omega, by rw [HR.out, q]⟩)]) (by decide))
              have qe : (r' == r) = true := beq_iff_eq.2 q
              clear q
              go_wp2_with fail
              go_quiet (fail)
              go_wp2_with fail
              go_ret
              exact ⟨by rw [HF.out]; rfl, HBQ.out _⟩
            · have HN := Lib.hid (fun j (hj : j < k + 1) => show ¬ (cnA l j).2.2 = r from if e : j = k then by rw [e, HR.out]; exact q else HK.out j (by omega))
              have qe : (r' == r) = false := beq_eq_false_iff_ne.2 q
              clear q
              go_wp2_with fail
              go_quiet (fail)
              go_wp2_with fail
              go_roundw
              case rel => exact ⟨k + 1, by omega, by go_num, HN, Lib.hid (HBQ.out _)⟩
              case measure => simp [intOf]; omega
          · obtain rfl : k = i := by omega
            have HNs := Lib.hid (show ¬ seenC l k r = true from fun h => by
              obtain ⟨j, h1, h2, h3⟩ := seenC_iff.1 h
              exact HK.out j h1 h3)
            have HBQ := Lib.hid (fun q => show Below w.heap.size w (wr.drewN q) from HW.out.trans ⟨rfl, rfl, rfl, Nat.le_refl _, fun _ _ => rfl⟩)
            rcases Nat.eq_zero_or_pos k with hi0 | hi0
            · have HN := Lib.hid (fst_step HE.out (show errC l k = 0 by
                unfold errC; rw [HC.out, if_neg (fun q => q HV.out), if_neg HNs.out, if_neg (fun q => by omega)]))
              subst hi0
              go_wp2_with fail
              go_quiet (fail)
              go_wp2_with fail
              go_roundw
              case rel => exact ⟨1, by omega, rfl, HN, Lib.hid (HBQ.out _)⟩
              case measure => simp [intOf]; omega
            · obtain ⟨j, rfl⟩ : ∃ j, k = j + 1 := ⟨k - 1, by omega⟩
              have p2 := ((HS.out.below HW.out HS.out.1).2 j (by omega)).2.2
              obtain ⟨r', hr'⟩ : ∃ q, (cnA l j).2.2 = q := ⟨_, rfl⟩
              rw [hr'] at p2
              have j0 : (0 : Int) ≤ (j : Int) := by omega
              have j1 : (j : Int) < (l.length : Int) := by omega
              have j2 : (0 : Int) < (j : Int) + 1 := by omega
              by_cases hlr : r < r'
              · have d2 : decide (r < r') = true := decide_eq_true hlr
                have HF := Lib.hid (chk_hit HE.out hlt (show errC l (j + 1) = 4 by
                  unfold errC; rw [HC.out, if_neg (fun q => q HV.out), if_neg HNs.out, if_pos ⟨by omega, by rw [Nat.add_sub_cancel, hr']; exact hlr⟩]) (by decide))
                clear hr'
                go_wp2_with fail
                go_quiet (fail)
                go_wp2_with fail
                go_ret
                exact ⟨by rw [HF.out]; rfl, HBQ.out _⟩
              · have d2 : decide (r < r') = false := decide_eq_false hlr
                have HN := Lib.hid (fst_step HE.out (show errC l (j + 1) = 0 by
                  unfold errC; rw [HC.out, if_neg (fun q => q HV.out), if_neg HNs.out, if_neg (fun q => hlr (by have := q.2; rw [Nat.add_sub_cancel, hr'] at this; exact this))]))
                clear hr'
                go_wp2_with fail
                go_quiet (fail)
                go_wp2_with fail
                go_roundw
                case rel => exact ⟨j + 1 + 1, by omega, by go_num, HN, Lib.hid (HBQ.out _)⟩
                case measure => simp [intOf]; omega
    · have d1 : ¬ (i : Int) < (l.length : Int) := by omega
      have HF := Lib.hid (show chkC l = 0 from fstC_zero fun j hj => HE.out j (by omega))
      go_wp2_with fail
      go_ret
      exact ⟨by rw [HF.out]; rfl, HB.out⟩
end Csn
end Go.Proofs.YtbkignlbcneddaaGreatDoor
end

section
/-
  Contracts of the specification's vector, Covers, Within. Condition: none beyond the lists' own.
-/
set_option maxRecDepth 100000
set_option maxRecDepth 100000
namespace Go.Proofs.YtbkignlbcneddaaGreatDoor
namespace Csn
open Go.RowKit Go.PlainAid
theorem rvector_s (ao : Option Addr) (n cap : Nat) (l : List Cn) (w : World) (h : CnsAt w ao n cap l) :
    Calls Tryz.prog 117 #[.slice ao n cap] w fun e w' => ∃ bo m dap, e = .returned (.slice bo m dap) ∧ CnsAt w' bo m dap (vecO l) ∧ Below w.heap.size w w' := by
  have H := Lib.hid h
  have HC := Lib.hid (rcheck_s ao n cap l w h)
  clear h
  obtain ⟨x, hx⟩ : ∃ x, chkC l = x := ⟨_, rfl⟩
  rw [hx] at HC
  by_cases h0 : x = 0
  · have HV := Lib.hid (show vecO l = l from if_pos (by rw [hx]; exact h0))
    subst h0
    clear hx
    go_enter Tryz.func117, Tryz.ntmps117
    go_wp2_with (go_at_call 151; refine HC.out.mono ?_; rintro e w' ⟨rfl, hb⟩)
    go_ret
    exact ⟨ao, n, cap, rfl, by rw [HV.out]; exact H.out.below hb, hb⟩
  · have HV := Lib.hid (show vecO l = [] from if_neg (by rw [hx]; exact h0))
    have d0 : (x != 0) = true := by simpa using h0
    clear hx h0
    go_enter Tryz.func117, Tryz.ntmps117
    go_wp2_with (go_at_call 151; refine HC.out.mono ?_; rintro e w' ⟨rfl, hb⟩)
    go_ret
    exact ⟨none, 0, 0, rfl, by rw [HV.out]; exact cns_nil _, hb⟩
theorem cov_yes {l : List Cn} {c : Cn} (hv : Vld c) {i : Nat} (hi : i < (vecO l).length) (h : cvP c (cnA (vecO l) i) = true) : covC l c = true := by
  unfold covC
  rw [decide_eq_true hv, Bool.true_and]
  exact List.any_eq_true.2 ⟨_, cn_mem hi, h⟩
theorem cov_no {l : List Cn} {c : Cn} (h : ∀ i, i < (vecO l).length → cvP c (cnA (vecO l) i) = false) : covC l c = false := by
  unfold covC
  rw [show ((vecO l).any fun e => decide (e.2.2 = c.2.2) && !decide (ltC e c)) = false from ?_, Bool.and_false]
  rw [List.any_eq_false]
  intro e he
  obtain ⟨i, hi, rfl⟩ := List.mem_iff_getElem.1 he
  have := h i hi
  rw [cn_get hi] at this
  unfold cvP at this
  rw [this]
  simp
structure CvR (w : World) (o : Obj) (bo : Option Addr) (m dap : Nat) (v : List Cn) (V : World) : Prop where
  low : Below w.heap.size w V
  kb : KbC V w.heap.size o
  v : CnsAt V bo m dap v
theorem CvR.step {w V X : World} {o : Obj} {bo : Option Addr} {m dap : Nat} {v : List Cn} (h : CvR w o bo m dap v V) (hb : Below V.heap.size V X) : CvR w o bo m dap v X :=
  ⟨h.low.trans (hb.mono h.low.size), h.kb.step hb, h.v.below hb⟩
theorem cns_at {V : World} {b off n cap : Nat} {l : List Cn} (h : CnsAt V (some ⟨b, off, none⟩) n cap l) {i : Nat} (hi : i < n) :
    V.cell? ⟨b, off + i * 3, none⟩ = some (.int .i64 (cnA l i).1) ∧ V.cell? ⟨b, off + i * 3 + 1, none⟩ = some (.int .i64 (cnA l i).2.1) ∧ V.cell? ⟨b, off + i * 3 + 2, none⟩ = some (.int .i64 (cnA l i).2.2) := by
  obtain ⟨b', o', e, hc⟩ := h.2.2.2.1 (by omega)
  cases e
  exact hc.2 i (by rw [h.1]; exact hi)
set_option maxHeartbeats 16000000 in
theorem rcovers_s (ao : Option Addr) (n cap : Nat) (l : List Cn) (c : Cn) (w : World) (h : CnsAt w ao n cap l) :
    Calls Tryz.prog 72 #[.slice ao n cap, cnV c] w fun e w' => e = .returned (.bool (covC l c)) ∧ Below w.heap.size w w' := by
  have H := Lib.hid h
  clear h
  have HB := Lib.hid (below_allocs [cnB c, cnB c] _ _ _ (Below.refl w.heap.size w) (Nat.le_refl _))
  have HX := Lib.hid ((kbc_new w (cnB c)).step (box_below _ (cnB c)))
  have hv1 := rvld_k c
  have HCm := Lib.hid (fun (e : Cn) (x : Int) W (h : cmpC e c = x) => show Calls Tryz.prog 34 #[.agg #[.int .i64 e.1, .int .i64 e.2.1, .int .i64 e.2.2], .agg #[.int .i64 c.1, .int .i64 c.2.1, .int .i64 c.2.2]] W (fun q w' => q = .returned (.int .i64 x) ∧ Below W.heap.size W w') from h ▸ rcmp_s e c W)
  have HYes := Lib.hid (fun (hv : Vld c) (i : Nat) (hi : i < (vecO l).length) (h : cvP c (cnA (vecO l) i) = true) => cov_yes (l := l) hv hi h)
  have HNo := Lib.hid (fun (h : ∀ i, i < (vecO l).length → cvP c (cnA (vecO l) i) = false) => cov_no (l := l) h)
  have HVc := Lib.hid (fun h => (vldC_iff c).2 h)
  have HVd := Lib.hid (fun h => (vldC_iff c).1 h)
  have HCv : Hid (covC l c = true → Vld c) := Lib.hid (fun h => (covC_iff.1 h).1)
  have HPd := Lib.hid (fun e : Cn => show cvP c e = (decide (e.2.2 = c.2.2) && !decide (ltC e c)) from rfl)
  have HPg := Lib.hid (fun e : Cn => show 0 ≤ cmpC e c ↔ ¬ ltC e c from cmpC_ge)
  obtain ⟨g, hg⟩ : ∃ g, covC l c = g := ⟨_, rfl⟩
  rw [hg] at HYes HNo HCv ⊢
  clear hg
  obtain ⟨v, hvv⟩ : ∃ v, vecO l = v := ⟨_, rfl⟩
  rw [hvv] at HYes HNo
  have HVV := Lib.hid hvv
  clear hvv
  obtain ⟨t, s, r⟩ := c
  show Calls _ _ #[.slice ao n cap, .agg #[.int .i64 t, .int .i64 s, .int .i64 r]] w _
  unfold cnB at HB HX
  dsimp only [List.foldl] at HB HX hv1 HCm
  have ld0 : (w.alloc (.cells #[.int .i64 t, .int .i64 s, .int .i64 r] 23)).cell? ⟨w.heap.size, 0, none⟩ = some (.int .i64 t) := (kbc_new _ _).cell rfl
  have ld1 : (w.alloc (.cells #[.int .i64 t, .int .i64 s, .int .i64 r] 23)).cell? ⟨w.heap.size, 1, none⟩ = some (.int .i64 s) := (kbc_new _ _).cell rfl
  have ld2 : (w.alloc (.cells #[.int .i64 t, .int .i64 s, .int .i64 r] 23)).cell? ⟨w.heap.size, 2, none⟩ = some (.int .i64 r) := (kbc_new _ _).cell rfl
  cases hv : vldC (t, s, r)
  · have HF := Lib.hid (show g = false by
      cases g
      · rfl
      · exact absurd (HVc.out (HCv.out rfl)) (by rw [hv]; decide))
    go_enter Tryz.func72, Tryz.ntmps72
    go_wp2_with fail
    refine (hv1 _ _ hv).mono ?_
    rintro e w' ⟨rfl, rfl⟩
    go_wp2_with fail
    go_ret
    exact ⟨by rw [HF.out]; rfl, HB.out⟩
  · have HVl := Lib.hid (HVd.out hv)
    go_enter Tryz.func72, Tryz.ntmps72
    go_wp2_with fail
    refine (hv1 _ _ hv).mono ?_
    rintro e w' ⟨rfl, rfl⟩
    clear ld0 ld1 ld2 hv hv1
    generalize (w.alloc (.cells #[.int .i64 t, .int .i64 s, .int .i64 r] 23)).alloc (.cells #[.int .i64 t, .int .i64 s, .int .i64 r] 23) = W1 at HB HX ⊢
    go_wp2_with fail
    refine (rvector_s ao n cap l _ (H.out.below HB.out)).mono ?_
    rintro e w2 ⟨bo, m, dap, rfl, hw, hb⟩
    rw [HVV.out] at hw
    have HC : Hid (CvR w (.cells #[.int .i64 t, .int .i64 s, .int .i64 r] 23) bo m dap v w2) := Lib.hid ⟨HB.out.trans (hb.mono HB.out.size), HX.out.step hb, hw⟩
    have hm : v.length = m := hw.1
    have hm2 : m ≤ maxLen := Nat.le_trans hw.2.1 hw.2.2.1
    unfold maxLen at hm2
    clear hw hb HB HX
    go_wp2_with fail
    go_loopw [6] (fun iv wr => ∃ i : Nat, i ≤ m ∧ iv = .int .i64 i ∧ Hid (∀ j, j < i → cvP (t, s, r) (cnA v j) = false) ∧ Hid (CvR w (.cells #[.int .i64 t, .int .i64 s, .int .i64 r] 23) bo m dap v wr)) (fun iv _ => m - (intOf iv).toNat)
    case atStart => exact ⟨0, Nat.zero_le _, rfl, Lib.hid (fun j hj => absurd hj (Nat.not_lt_zero _)), HC⟩
    case round =>
      clear HC
      obtain ⟨i, hi, rfl, HA, HC⟩ := hrel
      by_cases hlt : i < m
      · have d1 : (i : Int) < (m : Int) := by omega
        have i0 : (0 : Int) ≤ (i : Int) := by omega
        obtain ⟨b, off, rfl, _⟩ := HC.out.v.2.2.2.1 (by omega)
        obtain ⟨⟨x, y, z⟩, hp⟩ : ∃ p, cnA v i = p := ⟨_, rfl⟩
        have HP := Lib.hid hp
        clear hp
        have HSt := Lib.hid (show ∀ V : World, CvR w (.cells #[.int .i64 t, .int .i64 s, .int .i64 r] 23) (some ⟨b, off, none⟩) m dap v V → (fun V => V.cell? ⟨w.heap.size, 0, none⟩ = some (.int .i64 t) ∧ V.cell? ⟨w.heap.size, 1, none⟩ = some (.int .i64 s) ∧ V.cell? ⟨w.heap.size, 2, none⟩ = some (.int .i64 r) ∧ V.cell? ⟨b, off + i * 3, none⟩ = some (.int .i64 x) ∧ V.cell? ⟨b, off + i * 3 + 1, none⟩ = some (.int .i64 y) ∧ V.cell? ⟨b, off + i * 3 + 2, none⟩ = some (.int .i64 z) ∧ Hid (CvR w (.cells #[.int .i64 t, .int .i64 s, .int .i64 r] 23) (some ⟨b, off, none⟩) m dap v V)) V from fun V h => by
          have hc := cns_at h.v hlt
          rw [HP.out] at hc
          exact ⟨h.kb.cell rfl, h.kb.cell rfl, h.kb.cell rfl, hc.1, hc.2.1, hc.2.2, Lib.hid h⟩)
        have S0 := HSt.out _ (HC.out.step (Below.refl _ _).drew)
        by_cases hz : z = r
        · subst hz
          obtain ⟨k, hk⟩ : ∃ k, cmpC (x, y, z) (t, s, z) = k := ⟨_, rfl⟩
          have HK := Lib.hid hk
          have hge := HPg.out (x, y, z)
          rw [hk] at hge
          by_cases hk0 : 0 ≤ k
          · have q1 : decide (0 ≤ k) = true := decide_eq_true hk0
            have HF := Lib.hid (show g = true from HYes.out HVl.out i (by omega) (by rw [HP.out, HPd.out, decide_eq_true rfl, decide_eq_false (hge.1 hk0)]; rfl))
            clear hk hge hk0
            go_wp2_with fail
            have HC := Lib.hid (HC.out.step (Below.refl _ _).drew)
            refine wp_region_held_drew (S := fun V => V.cell? ⟨w.heap.size, 0, none⟩ = some (.int .i64 t) ∧ V.cell? ⟨w.heap.size, 1, none⟩ = some (.int .i64 s) ∧ V.cell? ⟨w.heap.size, 2, none⟩ = some (.int .i64 z) ∧ V.cell? ⟨b, off + i * 3, none⟩ = some (.int .i64 x) ∧ V.cell? ⟨b, off + i * 3 + 1, none⟩ = some (.int .i64 y) ∧ V.cell? ⟨b, off + i * 3 + 2, none⟩ = some (.int .i64 z) ∧ Hid (CvR w (.cells #[.int .i64 t, .int .i64 s, .int .i64 z] 23) (some ⟨b, off, none⟩) m dap v V)) (by kernel_rfl) (S0) (fun hS => ?_)
            refine wpAnyH_take (i := 0) (oi := { dst := some 18, op := _, type := _, pos := _, after := _, guard := _ }) (v := ?_) rfl (by kernel_rfl) (by kernel_rfl) (by kernel_rfl) (fun _ _ _ h => h) (Or.inl ⟨by rfl, ?_⟩) (by assumption) ?_
            rotate_left
            · intro w hSw
              try dsimp only at hSw
              go_simp
              try with_reducible rfl
            try simp only [Act.put, List.setIfInBounds_toArray, List.set_cons_zero, List.set_cons_succ]
            refine wpAnyH_take (i := 1) (oi := { dst := some 19, op := _, type := _, pos := _, after := _, guard := _ }) (v := ?_) rfl (by kernel_rfl) (by kernel_rfl) (by kernel_rfl) (fun _ _ _ h => h) (Or.inl ⟨by rfl, ?_⟩) (by assumption) ?_
            rotate_left
            · intro w hSw
              try dsimp only at hSw
              go_simp
              try with_reducible rfl
            try simp only [Act.put, List.setIfInBounds_toArray, List.set_cons_zero, List.set_cons_succ]
            refine wpAnyH_take (i := 2) (oi := { dst := some 20, op := _, type := _, pos := _, after := _, guard := _ }) (v := ?_) rfl (by kernel_rfl) (by kernel_rfl) (by kernel_rfl) (fun _ _ _ h => h) (Or.inl ⟨by rfl, ?_⟩) (by assumption) ?_
            rotate_left
            · intro w hSw
              try dsimp only at hSw
              go_simp
              try with_reducible rfl
            try simp only [Act.put, List.setIfInBounds_toArray, List.set_cons_zero, List.set_cons_succ]
            refine wpAnyH_take (i := 3) (oi := { dst := some 21, op := _, type := _, pos := _, after := _, guard := _ }) (v := ?_) rfl (by kernel_rfl) (by kernel_rfl) (by kernel_rfl) (fun _ _ _ h => h) (Or.inl ⟨by rfl, ?_⟩) (by assumption) ?_
            rotate_left
            · intro w hSw
              try dsimp only at hSw
              go_simp
              try with_reducible rfl
            try simp only [Act.put, List.setIfInBounds_toArray, List.set_cons_zero, List.set_cons_succ]
            refine wpAnyH_take (i := 4) (oi := { dst := some 22, op := _, type := _, pos := _, after := _, guard := _ }) (v := ?_) rfl (by kernel_rfl) (by kernel_rfl) (by kernel_rfl) (fun _ _ _ h => h) (Or.inl ⟨by rfl, ?_⟩) (by assumption) ?_
            rotate_left
            · intro w hSw
              try dsimp only at hSw
              go_simp
              try with_reducible rfl
            try simp only [Act.put, List.setIfInBounds_toArray, List.set_cons_zero, List.set_cons_succ]
            refine wpAnyH_take (i := 5) (oi := { dst := some 23, op := _, type := _, pos := _, after := _, guard := _ }) (v := ?_) rfl (by kernel_rfl) (by kernel_rfl) (by kernel_rfl) (fun _ _ _ h => h) (Or.inl ⟨by rfl, ?_⟩) (by assumption) ?_
            rotate_left
            · intro w hSw
              try dsimp only at hSw
              go_simp
              try with_reducible rfl
            try simp only [Act.put, List.setIfInBounds_toArray, List.set_cons_zero, List.set_cons_succ]
            refine wpAnyH_take (i := 6) (oi := { dst := some 24, op := _, type := _, pos := _, after := _, guard := _ }) (v := ?_) rfl (by kernel_rfl) (by kernel_rfl) (by kernel_rfl) (fun _ _ _ h => h) (Or.inl ⟨by rfl, ?_⟩) (by assumption) ?_
            rotate_left
            · intro w hSw
              try dsimp only at hSw
              go_simp
              try with_reducible rfl
            try simp only [Act.put, List.setIfInBounds_toArray, List.set_cons_zero, List.set_cons_succ]
            refine wpAnyH_take (i := 7) (oi := { dst := some 25, op := _, type := _, pos := _, after := _, guard := _ }) (v := ?_) rfl (by kernel_rfl) (by kernel_rfl) (by kernel_rfl) (fun _ _ _ h => h) (Or.inl ⟨by rfl, ?_⟩) (by assumption) ?_
            rotate_left
            · intro w hSw
              try dsimp only at hSw
              go_simp
              try with_reducible rfl
            try simp only [Act.put, List.setIfInBounds_toArray, List.set_cons_zero, List.set_cons_succ]
            refine wpAnyH_take (i := 8) (oi := { dst := some 26, op := _, type := _, pos := _, after := _, guard := _ }) (v := ?_) rfl (by kernel_rfl) (by kernel_rfl) (by kernel_rfl) (fun _ _ _ h => h) (Or.inl ⟨by rfl, ?_⟩) (by assumption) ?_
            rotate_left
            · intro w hSw
              try dsimp only at hSw
              go_simp
              try with_reducible rfl
            try simp only [Act.put, List.setIfInBounds_toArray, List.set_cons_zero, List.set_cons_succ]
            refine wpAnyH_take (i := 9) (oi := { dst := some 27, op := _, type := _, pos := _, after := _, guard := _ }) (v := ?_) rfl (by kernel_rfl) (by kernel_rfl) (by kernel_rfl) (fun _ _ _ h => h) (Or.inl ⟨by rfl, ?_⟩) (by assumption) ?_
            rotate_left
            · intro w hSw
              try dsimp only at hSw
              go_simp
              try with_reducible rfl
            try simp only [Act.put, List.setIfInBounds_toArray, List.set_cons_zero, List.set_cons_succ]
            refine wpAnyH_take (i := 10) (oi := { dst := some 28, op := _, type := _, pos := _, after := _, guard := _ }) (v := ?_) rfl (by kernel_rfl) (by kernel_rfl) (by kernel_rfl) (fun _ _ _ h => h) (Or.inl ⟨by rfl, ?_⟩) (by assumption) ?_
            rotate_left
            · intro w hSw
              try dsimp only at hSw
              go_simp
              try with_reducible rfl
            try simp only [Act.put, List.setIfInBounds_toArray, List.set_cons_zero, List.set_cons_succ]
            refine wpAnyH_take (i := 11) (oi := { dst := some 29, op := _, type := _, pos := _, after := _, guard := _ }) (v := ?_) rfl (by kernel_rfl) (by kernel_rfl) (by kernel_rfl) (fun _ _ _ h => h) (Or.inl ⟨by rfl, ?_⟩) (by assumption) ?_
            rotate_left
            · intro w hSw
              try dsimp only at hSw
              go_simp
              try with_reducible rfl
            try simp only [Act.put, List.setIfInBounds_toArray, List.set_cons_zero, List.set_cons_succ]
            refine wpAnyH_take (i := 12) (oi := { dst := some 30, op := _, type := _, pos := _, after := _, guard := _ }) (v := ?_) rfl (by kernel_rfl) (by kernel_rfl) (by kernel_rfl) (fun _ _ _ h => h) (Or.inl ⟨by rfl, ?_⟩) (by assumption) ?_
            rotate_left
            · intro w hSw
              try dsimp only at hSw
              go_simp
              try with_reducible rfl
            try simp only [Act.put, List.setIfInBounds_toArray, List.set_cons_zero, List.set_cons_succ]
            refine wpAnyH_take (i := 13) (oi := { dst := some 31, op := _, type := _, pos := _, after := _, guard := _ }) (v := ?_) rfl (by kernel_rfl) (by kernel_rfl) (by kernel_rfl) (fun _ _ _ h => h) (Or.inl ⟨by rfl, ?_⟩) (by assumption) ?_
            rotate_left
            · intro w hSw
              try dsimp only at hSw
              go_simp
              try with_reducible rfl
            try simp only [Act.put, List.setIfInBounds_toArray, List.set_cons_zero, List.set_cons_succ]
            refine wpAnyH_ready (rs := [14]) (by kernel_rfl) (by simp) ?_
            refine AllReadyH.cons rfl (fun K hK => ?_) AllReadyH.nil
            go_simp
            refine (HCm.out (x, y, z) k _ HK.out).mono ?_
            rintro _ v1 ⟨rfl, hb⟩
            have HC := Lib.hid (HC.out.step hb)
            clear hb
            go_wp2_with fail
            refine hK.out _ _ ?_ (fun hHeld => ?_)
            · exact HSt.out _ HC.out
            clear hK K
            try simp only [Act.put, List.setIfInBounds_toArray, List.set_cons_zero, List.set_cons_succ]
            refine wpAnyH_take (i := 15) (oi := { dst := some 33, op := _, type := _, pos := _, after := _, guard := _ }) (v := ?_) rfl (by kernel_rfl) (by kernel_rfl) (by kernel_rfl) (fun _ _ _ h => h) (Or.inl ⟨by rfl, ?_⟩) (by assumption) ?_
            rotate_left
            · intro w hSw
              try dsimp only at hSw
              go_simp
              try with_reducible rfl
            try simp only [Act.put, List.setIfInBounds_toArray, List.set_cons_zero, List.set_cons_succ]
            refine wpAnyH_take (i := 16) (oi := { dst := some 34, op := _, type := _, pos := _, after := _, guard := _ }) (v := ?_) rfl (by kernel_rfl) (by kernel_rfl) (by kernel_rfl) (fun _ _ _ h => h) (Or.inl ⟨by rfl, ?_⟩) (by assumption) ?_
            rotate_left
            · intro w hSw
              try dsimp only at hSw
              go_simp
              try with_reducible rfl
            try simp only [Act.put, List.setIfInBounds_toArray, List.set_cons_zero, List.set_cons_succ]
            refine wpAnyH_done (by kernel_rfl) ?_ _
            go_wp2_with fail
            go_ret
            exact ⟨by rw [HF.out]; rfl, HC.out.low⟩
          · have q1 : decide (0 ≤ k) = false := decide_eq_false hk0
            have HN := Lib.hid (fun j (hj : j < i + 1) => show cvP (t, s, z) (cnA v j) = false from if e : j = i then by rw [e, HP.out, HPd.out, decide_eq_true (show ltC (x, y, z) (t, s, z) from Classical.not_not.1 fun q => hk0 (hge.2 q)), Bool.not_true, Bool.and_false] else HA.out j (by omega))
            clear hk hge hk0
            go_wp2_with fail
            have HC := Lib.hid (HC.out.step (Below.refl _ _).drew)
            refine wp_region_held_drew (S := fun V => V.cell? ⟨w.heap.size, 0, none⟩ = some (.int .i64 t) ∧ V.cell? ⟨w.heap.size, 1, none⟩ = some (.int .i64 s) ∧ V.cell? ⟨w.heap.size, 2, none⟩ = some (.int .i64 z) ∧ V.cell? ⟨b, off + i * 3, none⟩ = some (.int .i64 x) ∧ V.cell? ⟨b, off + i * 3 + 1, none⟩ = some (.int .i64 y) ∧ V.cell? ⟨b, off + i * 3 + 2, none⟩ = some (.int .i64 z) ∧ Hid (CvR w (.cells #[.int .i64 t, .int .i64 s, .int .i64 z] 23) (some ⟨b, off, none⟩) m dap v V)) (by kernel_rfl) (S0) (fun hS => ?_)
            refine wpAnyH_take (i := 0) (oi := { dst := some 18, op := _, type := _, pos := _, after := _, guard := _ }) (v := ?_) rfl (by kernel_rfl) (by kernel_rfl) (by kernel_rfl) (fun _ _ _ h => h) (Or.inl ⟨by rfl, ?_⟩) (by assumption) ?_
            rotate_left
            · intro w hSw
              try dsimp only at hSw
              go_simp
              try with_reducible rfl
            try simp only [Act.put, List.setIfInBounds_toArray, List.set_cons_zero, List.set_cons_succ]
            refine wpAnyH_take (i := 1) (oi := { dst := some 19, op := _, type := _, pos := _, after := _, guard := _ }) (v := ?_) rfl (by kernel_rfl) (by kernel_rfl) (by kernel_rfl) (fun _ _ _ h => h) (Or.inl ⟨by rfl, ?_⟩) (by assumption) ?_
            rotate_left
            · intro w hSw
              try dsimp only at hSw
              go_simp
              try with_reducible rfl
            try simp only [Act.put, List.setIfInBounds_toArray, List.set_cons_zero, List.set_cons_succ]
            refine wpAnyH_take (i := 2) (oi := { dst := some 20, op := _, type := _, pos := _, after := _, guard := _ }) (v := ?_) rfl (by kernel_rfl) (by kernel_rfl) (by kernel_rfl) (fun _ _ _ h => h) (Or.inl ⟨by rfl, ?_⟩) (by assumption) ?_
            rotate_left
            · intro w hSw
              try dsimp only at hSw
              go_simp
              try with_reducible rfl
            try simp only [Act.put, List.setIfInBounds_toArray, List.set_cons_zero, List.set_cons_succ]
            refine wpAnyH_take (i := 3) (oi := { dst := some 21, op := _, type := _, pos := _, after := _, guard := _ }) (v := ?_) rfl (by kernel_rfl) (by kernel_rfl) (by kernel_rfl) (fun _ _ _ h => h) (Or.inl ⟨by rfl, ?_⟩) (by assumption) ?_
            rotate_left
            · intro w hSw
              try dsimp only at hSw
              go_simp
              try with_reducible rfl
            try simp only [Act.put, List.setIfInBounds_toArray, List.set_cons_zero, List.set_cons_succ]
            refine wpAnyH_take (i := 4) (oi := { dst := some 22, op := _, type := _, pos := _, after := _, guard := _ }) (v := ?_) rfl (by kernel_rfl) (by kernel_rfl) (by kernel_rfl) (fun _ _ _ h => h) (Or.inl ⟨by rfl, ?_⟩) (by assumption) ?_
            rotate_left
            · intro w hSw
              try dsimp only at hSw
              go_simp
              try with_reducible rfl
            try simp only [Act.put, List.setIfInBounds_toArray, List.set_cons_zero, List.set_cons_succ]
            refine wpAnyH_take (i := 5) (oi := { dst := some 23, op := _, type := _, pos := _, after := _, guard := _ }) (v := ?_) rfl (by kernel_rfl) (by kernel_rfl) (by kernel_rfl) (fun _ _ _ h => h) (Or.inl ⟨by rfl, ?_⟩) (by assumption) ?_
            rotate_left
            · intro w hSw
              try dsimp only at hSw
              go_simp
              try with_reducible rfl
            try simp only [Act.put, List.setIfInBounds_toArray, List.set_cons_zero, List.set_cons_succ]
            refine wpAnyH_take (i := 6) (oi := { dst := some 24, op := _, type := _, pos := _, after := _, guard := _ }) (v := ?_) rfl (by kernel_rfl) (by kernel_rfl) (by kernel_rfl) (fun _ _ _ h => h) (Or.inl ⟨by rfl, ?_⟩) (by assumption) ?_
            rotate_left
            · intro w hSw
              try dsimp only at hSw
              go_simp
              try with_reducible rfl
            try simp only [Act.put, List.setIfInBounds_toArray, List.set_cons_zero, List.set_cons_succ]
            refine wpAnyH_take (i := 7) (oi := { dst := some 25, op := _, type := _, pos := _, after := _, guard := _ }) (v := ?_) rfl (by kernel_rfl) (by kernel_rfl) (by kernel_rfl) (fun _ _ _ h => h) (Or.inl ⟨by rfl, ?_⟩) (by assumption) ?_
            rotate_left
            · intro w hSw
              try dsimp only at hSw
              go_simp
              try with_reducible rfl
            try simp only [Act.put, List.setIfInBounds_toArray, List.set_cons_zero, List.set_cons_succ]
            refine wpAnyH_take (i := 8) (oi := { dst := some 26, op := _, type := _, pos := _, after := _, guard := _ }) (v := ?_) rfl (by kernel_rfl) (by kernel_rfl) (by kernel_rfl) (fun _ _ _ h => h) (Or.inl ⟨by rfl, ?_⟩) (by assumption) ?_
            rotate_left
            · intro w hSw
              try dsimp only at hSw
              go_simp
              try with_reducible rfl
            try simp only [Act.put, List.setIfInBounds_toArray, List.set_cons_zero, List.set_cons_succ]
            refine wpAnyH_take (i := 9) (oi := { dst := some 27, op := _, type := _, pos := _, after := _, guard := _ }) (v := ?_) rfl (by kernel_rfl) (by kernel_rfl) (by kernel_rfl) (fun _ _ _ h => h) (Or.inl ⟨by rfl, ?_⟩) (by assumption) ?_
            rotate_left
            · intro w hSw
              try dsimp only at hSw
              go_simp
              try with_reducible rfl
            try simp only [Act.put, List.setIfInBounds_toArray, List.set_cons_zero, List.set_cons_succ]
            refine wpAnyH_take (i := 10) (oi := { dst := some 28, op := _, type := _, pos := _, after := _, guard := _ }) (v := ?_) rfl (by kernel_rfl) (by kernel_rfl) (by kernel_rfl) (fun _ _ _ h => h) (Or.inl ⟨by rfl, ?_⟩) (by assumption) ?_
            rotate_left
            · intro w hSw
              try dsimp only at hSw
              go_simp
              try with_reducible rfl
            try simp only [Act.put, List.setIfInBounds_toArray, List.set_cons_zero, List.set_cons_succ]
            refine wpAnyH_take (i := 11) (oi := { dst := some 29, op := _, type := _, pos := _, after := _, guard := _ }) (v := ?_) rfl (by kernel_rfl) (by kernel_rfl) (by kernel_rfl) (fun _ _ _ h => h) (Or.inl ⟨by rfl, ?_⟩) (by assumption) ?_
            rotate_left
            · intro w hSw
              try dsimp only at hSw
              go_simp
              try with_reducible rfl
            try simp only [Act.put, List.setIfInBounds_toArray, List.set_cons_zero, List.set_cons_succ]
            refine wpAnyH_take (i := 12) (oi := { dst := some 30, op := _, type := _, pos := _, after := _, guard := _ }) (v := ?_) rfl (by kernel_rfl) (by kernel_rfl) (by kernel_rfl) (fun _ _ _ h => h) (Or.inl ⟨by rfl, ?_⟩) (by assumption) ?_
            rotate_left
            · intro w hSw
              try dsimp only at hSw
              go_simp
              try with_reducible rfl
            try simp only [Act.put, List.setIfInBounds_toArray, List.set_cons_zero, List.set_cons_succ]
            refine wpAnyH_take (i := 13) (oi := { dst := some 31, op := _, type := _, pos := _, after := _, guard := _ }) (v := ?_) rfl (by kernel_rfl) (by kernel_rfl) (by kernel_rfl) (fun _ _ _ h => h) (Or.inl ⟨by rfl, ?_⟩) (by assumption) ?_
            rotate_left
            · intro w hSw
              try dsimp only at hSw
              go_simp
              try with_reducible rfl
            try simp only [Act.put, List.setIfInBounds_toArray, List.set_cons_zero, List.set_cons_succ]
            refine wpAnyH_ready (rs := [14]) (by kernel_rfl) (by simp) ?_
            refine AllReadyH.cons rfl (fun K hK => ?_) AllReadyH.nil
            go_simp
            refine (HCm.out (x, y, z) k _ HK.out).mono ?_
            rintro _ v1 ⟨rfl, hb⟩
            have HC := Lib.hid (HC.out.step hb)
            clear hb
            go_wp2_with fail
            refine hK.out _ _ ?_ (fun hHeld => ?_)
            · exact HSt.out _ HC.out
            clear hK K
            try simp only [Act.put, List.setIfInBounds_toArray, List.set_cons_zero, List.set_cons_succ]
            refine wpAnyH_take (i := 15) (oi := { dst := some 33, op := _, type := _, pos := _, after := _, guard := _ }) (v := ?_) rfl (by kernel_rfl) (by kernel_rfl) (by kernel_rfl) (fun _ _ _ h => h) (Or.inl ⟨by rfl, ?_⟩) (by assumption) ?_
            rotate_left
            · intro w hSw
              try dsimp only at hSw
              go_simp
              try with_reducible rfl
            try simp only [Act.put, List.setIfInBounds_toArray, List.set_cons_zero, List.set_cons_succ]
            refine wpAnyH_take (i := 16) (oi := { dst := some 34, op := _, type := _, pos := _, after := _, guard := _ }) (v := ?_) rfl (by kernel_rfl) (by kernel_rfl) (by kernel_rfl) (fun _ _ _ h => h) (Or.inl ⟨by rfl, ?_⟩) (by assumption) ?_
            rotate_left
            · intro w hSw
              try dsimp only at hSw
              go_simp
              try with_reducible rfl
            try simp only [Act.put, List.setIfInBounds_toArray, List.set_cons_zero, List.set_cons_succ]
            refine wpAnyH_done (by kernel_rfl) ?_ _
            go_wp2_with fail
            go_roundw
            case rel => exact ⟨i + 1, by omega, by go_num, HN, HC⟩
            case measure => simp [intOf]; omega
        · have q1 : (z == r) = false := beq_eq_false_iff_ne.2 hz
          have HN := Lib.hid (fun j (hj : j < i + 1) => show cvP (t, s, r) (cnA v j) = false from if e : j = i then by rw [e, HP.out, HPd.out, decide_eq_false (show ¬ z = r from hz), Bool.false_and] else HA.out j (by omega))
          clear hz
          go_wp2_with fail
          have HC := Lib.hid (HC.out.step (Below.refl _ _).drew)
          refine wp_region_held_drew (S := fun V => V.cell? ⟨w.heap.size, 0, none⟩ = some (.int .i64 t) ∧ V.cell? ⟨w.heap.size, 1, none⟩ = some (.int .i64 s) ∧ V.cell? ⟨w.heap.size, 2, none⟩ = some (.int .i64 r) ∧ V.cell? ⟨b, off + i * 3, none⟩ = some (.int .i64 x) ∧ V.cell? ⟨b, off + i * 3 + 1, none⟩ = some (.int .i64 y) ∧ V.cell? ⟨b, off + i * 3 + 2, none⟩ = some (.int .i64 z) ∧ Hid (CvR w (.cells #[.int .i64 t, .int .i64 s, .int .i64 r] 23) (some ⟨b, off, none⟩) m dap v V)) (by kernel_rfl) (S0) (fun hS => ?_)
          refine wpAnyH_take (i := 0) (oi := { dst := some 18, op := _, type := _, pos := _, after := _, guard := _ }) (v := ?_) rfl (by kernel_rfl) (by kernel_rfl) (by kernel_rfl) (fun _ _ _ h => h) (Or.inl ⟨by rfl, ?_⟩) (by assumption) ?_
          rotate_left
          · intro w hSw
            try dsimp only at hSw
            go_simp
            try with_reducible rfl
          try simp only [Act.put, List.setIfInBounds_toArray, List.set_cons_zero, List.set_cons_succ]
          refine wpAnyH_take (i := 1) (oi := { dst := some 19, op := _, type := _, pos := _, after := _, guard := _ }) (v := ?_) rfl (by kernel_rfl) (by kernel_rfl) (by kernel_rfl) (fun _ _ _ h => h) (Or.inl ⟨by rfl, ?_⟩) (by assumption) ?_
          rotate_left
          · intro w hSw
            try dsimp only at hSw
            go_simp
            try with_reducible rfl
          try simp only [Act.put, List.setIfInBounds_toArray, List.set_cons_zero, List.set_cons_succ]
          refine wpAnyH_take (i := 2) (oi := { dst := some 20, op := _, type := _, pos := _, after := _, guard := _ }) (v := ?_) rfl (by kernel_rfl) (by kernel_rfl) (by kernel_rfl) (fun _ _ _ h => h) (Or.inl ⟨by rfl, ?_⟩) (by assumption) ?_
          rotate_left
          · intro w hSw
            try dsimp only at hSw
            go_simp
            try with_reducible rfl
          try simp only [Act.put, List.setIfInBounds_toArray, List.set_cons_zero, List.set_cons_succ]
          refine wpAnyH_take (i := 3) (oi := { dst := some 21, op := _, type := _, pos := _, after := _, guard := _ }) (v := ?_) rfl (by kernel_rfl) (by kernel_rfl) (by kernel_rfl) (fun _ _ _ h => h) (Or.inl ⟨by rfl, ?_⟩) (by assumption) ?_
          rotate_left
          · intro w hSw
            try dsimp only at hSw
            go_simp
            try with_reducible rfl
          try simp only [Act.put, List.setIfInBounds_toArray, List.set_cons_zero, List.set_cons_succ]
          refine wpAnyH_take (i := 4) (oi := { dst := some 22, op := _, type := _, pos := _, after := _, guard := _ }) (v := ?_) rfl (by kernel_rfl) (by kernel_rfl) (by kernel_rfl) (fun _ _ _ h => h) (Or.inl ⟨by rfl, ?_⟩) (by assumption) ?_
          rotate_left
          · intro w hSw
            try dsimp only at hSw
            go_simp
            try with_reducible rfl
          try simp only [Act.put, List.setIfInBounds_toArray, List.set_cons_zero, List.set_cons_succ]
          refine wpAnyH_take (i := 5) (oi := { dst := some 23, op := _, type := _, pos := _, after := _, guard := _ }) (v := ?_) rfl (by kernel_rfl) (by kernel_rfl) (by kernel_rfl) (fun _ _ _ h => h) (Or.inl ⟨by rfl, ?_⟩) (by assumption) ?_
          rotate_left
          · intro w hSw
            try dsimp only at hSw
            go_simp
            try with_reducible rfl
          try simp only [Act.put, List.setIfInBounds_toArray, List.set_cons_zero, List.set_cons_succ]
          refine wpAnyH_take (i := 6) (oi := { dst := some 24, op := _, type := _, pos := _, after := _, guard := _ }) (v := ?_) rfl (by kernel_rfl) (by kernel_rfl) (by kernel_rfl) (fun _ _ _ h => h) (Or.inl ⟨by rfl, ?_⟩) (by assumption) ?_
          rotate_left
          · intro w hSw
            try dsimp only at hSw
            go_simp
            try with_reducible rfl
          try simp only [Act.put, List.setIfInBounds_toArray, List.set_cons_zero, List.set_cons_succ]
          refine wpAnyH_take (i := 7) (oi := { dst := some 25, op := _, type := _, pos := _, after := _, guard := _ }) (v := ?_) rfl (by kernel_rfl) (by kernel_rfl) (by kernel_rfl) (fun _ _ _ h => h) (Or.inl ⟨by rfl, ?_⟩) (by assumption) ?_
          rotate_left
          · intro w hSw
            try dsimp only at hSw
            go_simp
            try with_reducible rfl
          try simp only [Act.put, List.setIfInBounds_toArray, List.set_cons_zero, List.set_cons_succ]
          refine wpAnyH_take (i := 8) (oi := { dst := some 26, op := _, type := _, pos := _, after := _, guard := _ }) (v := ?_) rfl (by kernel_rfl) (by kernel_rfl) (by kernel_rfl) (fun _ _ _ h => h) (Or.inl ⟨by rfl, ?_⟩) (by assumption) ?_
          rotate_left
          · intro w hSw
            try dsimp only at hSw
            go_simp
            try with_reducible rfl
          try simp only [Act.put, List.setIfInBounds_toArray, List.set_cons_zero, List.set_cons_succ]
          refine wpAnyH_take (i := 9) (oi := { dst := some 27, op := _, type := _, pos := _, after := _, guard := _ }) (v := undef) rfl (by kernel_rfl) (by kernel_rfl) (by kernel_rfl) (fun _ _ _ h => h) (Or.inr ⟨by rfl, rfl⟩) (by assumption) ?_
          try simp only [Act.put, List.setIfInBounds_toArray, List.set_cons_zero, List.set_cons_succ]
          refine wpAnyH_take (i := 10) (oi := { dst := some 28, op := _, type := _, pos := _, after := _, guard := _ }) (v := undef) rfl (by kernel_rfl) (by kernel_rfl) (by kernel_rfl) (fun _ _ _ h => h) (Or.inr ⟨by rfl, rfl⟩) (by assumption) ?_
          try simp only [Act.put, List.setIfInBounds_toArray, List.set_cons_zero, List.set_cons_succ]
          refine wpAnyH_take (i := 11) (oi := { dst := some 29, op := _, type := _, pos := _, after := _, guard := _ }) (v := undef) rfl (by kernel_rfl) (by kernel_rfl) (by kernel_rfl) (fun _ _ _ h => h) (Or.inr ⟨by rfl, rfl⟩) (by assumption) ?_
          try simp only [Act.put, List.setIfInBounds_toArray, List.set_cons_zero, List.set_cons_succ]
          refine wpAnyH_take (i := 12) (oi := { dst := some 30, op := _, type := _, pos := _, after := _, guard := _ }) (v := undef) rfl (by kernel_rfl) (by kernel_rfl) (by kernel_rfl) (fun _ _ _ h => h) (Or.inr ⟨by rfl, rfl⟩) (by assumption) ?_
          try simp only [Act.put, List.setIfInBounds_toArray, List.set_cons_zero, List.set_cons_succ]
          refine wpAnyH_take (i := 13) (oi := { dst := some 31, op := _, type := _, pos := _, after := _, guard := _ }) (v := undef) rfl (by kernel_rfl) (by kernel_rfl) (by kernel_rfl) (fun _ _ _ h => h) (Or.inr ⟨by rfl, rfl⟩) (by assumption) ?_
          try simp only [Act.put, List.setIfInBounds_toArray, List.set_cons_zero, List.set_cons_succ]
          refine wpAnyH_take (i := 14) (oi := { dst := some 32, op := _, type := _, pos := _, after := _, guard := _ }) (v := undef) rfl (by kernel_rfl) (by kernel_rfl) (by kernel_rfl) (fun _ _ _ h => h) (Or.inr ⟨by rfl, rfl⟩) (by assumption) ?_
          try simp only [Act.put, List.setIfInBounds_toArray, List.set_cons_zero, List.set_cons_succ]
          refine wpAnyH_take (i := 15) (oi := { dst := some 33, op := _, type := _, pos := _, after := _, guard := _ }) (v := undef) rfl (by kernel_rfl) (by kernel_rfl) (by kernel_rfl) (fun _ _ _ h => h) (Or.inr ⟨by rfl, rfl⟩) (by assumption) ?_
          try simp only [Act.put, List.setIfInBounds_toArray, List.set_cons_zero, List.set_cons_succ]
          refine wpAnyH_take (i := 16) (oi := { dst := some 34, op := _, type := _, pos := _, after := _, guard := _ }) (v := ?_) rfl (by kernel_rfl) (by kernel_rfl) (by kernel_rfl) (fun _ _ _ h => h) (Or.inl ⟨by rfl, ?_⟩) (by assumption) ?_
          rotate_left
          · intro w hSw
            try dsimp only at hSw
            go_simp
            try with_reducible rfl
          try simp only [Act.put, List.setIfInBounds_toArray, List.set_cons_zero, List.set_cons_succ]
          refine wpAnyH_done (by kernel_rfl) ?_ _
          go_wp2_with fail
          go_roundw
          case rel => exact ⟨i + 1, by omega, by go_num, HN, HC⟩
          case measure => simp [intOf]; omega
      · have d1 : ¬ (i : Int) < (m : Int) := by omega
        have HF := Lib.hid (show g = false from HNo.out fun j hj => HA.out j (by omega))
        go_wp2_with fail
        go_ret
        exact ⟨by rw [HF.out]; rfl, HC.out.low⟩
end Csn
end Go.Proofs.YtbkignlbcneddaaGreatDoor
end
