/-
  Texts of the schema layer and of those beneath it, joined: SchSam, SchPc, SchPd. Conditions stand at each contract.
-/
import Derived.BigQuiet
import Derived.Deep.DeepCutAuto
import Derived.WalkKit
import Derived.Test.YtclfjdnemafmeaaGreatDoorQ11
import Derived.Test.YtclfjdnemafmeaaGreatDoorQ19
import Derived.Test.YtclfjdnemafmeaaGreatDoorQ22
import Derived.Test.YtclfjdnemafmeaaGreatDoorQ27
set_option linter.unusedVariables false
set_option linter.unusedSimpArgs false
set_option linter.unnecessarySimpa false

section
/-
  Contract of the specification's Same, where the two schemas hold the same. No condition.
-/
set_option maxRecDepth 100000
namespace Go.Proofs.YtclfjdnemafmeaaGreatDoor
open Go.RowKit Go.PlainAid
/-- the boxes of Same -/
structure SaB (w W : World) (ao : Option Addr) (cap n : Nat) (bo : Option Addr) (dap m : Nat) (co : Option Addr) (eap : Nat) (do_ : Option Addr) (fap : Nat) : Prop where
  k0 : Kb W w.heap.size (.cells #[.slice ao n cap, .slice bo m dap] 25)
  k1 : Kb W (w.heap.size + 1) (.cells #[.slice co n eap, .slice do_ m fap] 25)
  low : Below w.heap.size w W
theorem SaB.step {w W V : World} {ao : Option Addr} {cap n : Nat} {bo : Option Addr} {dap m : Nat} {co : Option Addr} {eap : Nat} {do_ : Option Addr} {fap : Nat} (h : SaB w W ao cap n bo dap m co eap do_ fap) (hb : Below W.heap.size W V) : SaB w V ao cap n bo dap m co eap do_ fap :=
  ⟨h.k0.step hb, h.k1.step hb, h.low.trans (hb.mono h.low.size)⟩
theorem SaB.cells {w W : World} {ao : Option Addr} {cap n : Nat} {bo : Option Addr} {dap m : Nat} {co : Option Addr} {eap : Nat} {do_ : Option Addr} {fap : Nat} (h : SaB w W ao cap n bo dap m co eap do_ fap) :
    W.cell? ⟨w.heap.size, 0, none⟩ = some (.slice ao n cap) ∧ W.cell? ⟨w.heap.size, 1, none⟩ = some (.slice bo m dap) ∧ W.cell? ⟨w.heap.size + 1, 0, none⟩ = some (.slice co n eap) ∧ W.cell? ⟨w.heap.size + 1, 1, none⟩ = some (.slice do_ m fap) :=
  ⟨h.k0.cell rfl, h.k0.cell rfl, h.k1.cell rfl, h.k1.cell rfl⟩
theorem saB_new (w : World) (ao : Option Addr) (cap n : Nat) (bo : Option Addr) (dap m : Nat) (co : Option Addr) (eap : Nat) (do_ : Option Addr) (fap : Nat) :
    SaB w ((w.alloc (.cells #[.slice ao n cap, .slice bo m dap] 25)).alloc (.cells #[.slice co n eap, .slice do_ m fap] 25)) ao cap n bo dap m co eap do_ fap :=
  ⟨(kbl_new w _).step (below_al _ _), by have := kbl_new (w.alloc (.cells #[.slice ao n cap, .slice bo m dap] 25)) (.cells #[.slice co n eap, .slice do_ m fap] 25); simpa using this, (below_al w _).trans ((below_al _ _).mono (by simp))⟩
theorem below_drewN (w : World) (q : Nat) : Below w.heap.size w (w.drewN q) := ⟨rfl, rfl, rfl, Nat.le_refl _, fun _ _ => rfl⟩
theorem two_al (W : World) (o o' : Obj) : Kb ((W.alloc o).alloc o').drew W.heap.size o ∧ Kb ((W.alloc o).alloc o').drew (W.heap.size + 1) o' ∧ Below W.heap.size W ((W.alloc o).alloc o').drew :=
  ⟨((kbl_new W o).step (below_al _ o')).step (Below.refl _ _).drew, by have := kbl_new (W.alloc o) o'; exact Kb.step (by simpa using this) (Below.refl _ _).drew, ((below_al W o).trans ((below_al _ o').mono (by simp))).drew⟩
set_option maxHeartbeats 8000000 in
theorem same_s (u v : Value) (ts : List Ty) (cs : List Cl) (w : World) (h : SchV w u ts cs) (k : SchV w v ts cs) :
    Calls Tryz.prog 35 #[u, v] w fun e w' => e = .returned (.bool true) ∧ Below w.heap.size w w' := by
  obtain ⟨ao, n, cap, bo, m, dap, rfl, hT, hC, _, _⟩ := h
  obtain ⟨co, n', eap, do_, m', fap, rfl, hU, hD, _, _⟩ := k
  obtain rfl := hT.1.symm.trans hU.1
  obtain rfl := hC.1.symm.trans hD.1
  have HT := Lib.hid (And.intro hT hU)
  have HC := Lib.hid (And.intro hC hD)
  have htx := hT.2.2.1
  have hcx := hC.2.2.1
  have htn := hT.2.1
  have hcn := hC.2.1
  unfold maxLen at htx hcx
  have HTL := Lib.hid hT.1
  have HCL := Lib.hid hC.1
  clear hT hC hU hD
  have HK0 := Lib.hid (saB_new w ao cap n bo dap m co eap do_ fap)
  have n0 : ((n : Int) != (n : Int)) = false := by simp
  have m0 : ((m : Int) != (m : Int)) = false := by simp
  go_enter Tryz.func35, Tryz.ntmps35
  go_wp2_with fail
  generalize (w.alloc (.cells #[.slice ao n cap, .slice bo m dap] 25)).alloc (.cells #[.slice co n eap, .slice do_ m fap] 25) = W1 at HK0 ⊢
  go_loopw [5] (fun i wr => ∃ k : Nat, k ≤ n ∧ i = .int .i64 k ∧ Hid (SaB w wr ao cap n bo dap m co eap do_ fap)) (fun i _ => n - (intOf i).toNat)
  case atStart => exact ⟨0, Nat.zero_le _, rfl, HK0⟩
  case round =>
    obtain ⟨k, hk, rfl, HKj⟩ := hrel
    obtain ⟨c0, c1, c2, c3⟩ := HKj.out.cells
    by_cases hlt : k < n
    · have d1 : decide ((k : Int) < (n : Int)) = true := decide_eq_true (by omega)
      have d0 : (0 : Int) ≤ (k : Int) := by omega
      have d3 : (k : Int) < (n : Int) := by omega
      obtain ⟨b, off, rfl, hbl, hs⟩ := (HT.out.1.below HKj.out.low).2.2.2 (by omega)
      obtain ⟨c, off2, rfl, hcl, hs2⟩ := (HT.out.2.below HKj.out.low).2.2.2 (by omega)
      have g1 := hs k hlt
      have g2 := hs2 k hlt
      clear hs hs2
      obtain ⟨T, hT⟩ : ∃ x, tyAt ts k = x := ⟨_, rfl⟩
      rw [hT] at g1 g2
      clear hT
      obtain ⟨p, x, sg⟩ := T
      obtain ⟨y0, y1, y2⟩ := g1
      obtain ⟨z0, z1, z2⟩ := g2
      simp only at y0 y1 y2 z0 z1 z2
      have e1 : (p.toList == p.toList) = true := by simp
      have e2 : (x == x) = true := by simp
      have e3 : (sg == sg) = true := by simp
      go_wp2_with fail
      go_quiet (fail)
      go_wp2_with fail
      go_roundw
      case rel => exact ⟨k + 1, by omega, by go_num, Lib.hid (HKj.out.step (below_drewN _ _))⟩
      case measure => simp [intOf]; omega
    · obtain rfl : n = k := by omega
      have d1 : decide ((n : Int) < (n : Int)) = false := decide_eq_false (by omega)
      have HKj0 := Lib.hid HKj.out
      go_wp2_with fail
      clear d1 HKj c0 c1 c2 c3 hk hlt
      go_loopw [6, 7, 8] (fun i s7 s8 wr => ∃ k : Nat, k ≤ m ∧ i = .int .i64 k ∧ Hid (SaB w wr ao cap n bo dap m co eap do_ fap)) (fun i _ _ _ => m - (intOf i).toNat)
      case atStart => exact ⟨0, Nat.zero_le _, rfl, HKj0⟩
      case round =>
        clear HKj0
        obtain ⟨k, hk, rfl, HKj⟩ := hrel
        obtain ⟨c0, c1, c2, c3⟩ := HKj.out.cells
        by_cases hlt : k < m
        · have d1 : decide ((k : Int) < (m : Int)) = true := decide_eq_true (by omega)
          have d0 : (0 : Int) ≤ (k : Int) := by omega
          have d3 : (k : Int) < (m : Int) := by omega
          obtain ⟨b, off, rfl, hbl, hs⟩ := (HC.out.1.below HKj.out.low).2.2.2 (by omega)
          obtain ⟨c, off2, rfl, hcl, hs2⟩ := (HC.out.2.below HKj.out.low).2.2.2 (by omega)
          have g1 := hs k hlt
          have g2 := hs2 k hlt
          clear hs hs2
          obtain ⟨C, hC⟩ : ∃ x, clAt cs k = x := ⟨_, rfl⟩
          rw [hC] at g1 g2
          clear hC
          obtain ⟨cn, sup, mu, ma⟩ := C
          obtain ⟨y0, y1, ⟨a1, p1, q1, y2, hS1⟩, a2, p2, q2, y3, hS2⟩ := g1
          obtain ⟨z0, z1, ⟨b1, r1, t1, z2, hR1⟩, b2, r2, t2, z3, hR2⟩ := g2
          simp only at y0 y1 y2 y3 z0 z1 z2 z3 hS1 hS2 hR1 hR2
          have HL := Lib.hid (And.intro (And.intro hS1 hR1) (And.intro hS2 hR2))
          clear hS1 hR1 hS2 hR2
          have e1 : (cn.toList == cn.toList) = true := by simp
          have e2 : (sup.toList == sup.toList) = true := by simp
          have hq0 := HKj.out.k0.big
          have hq1 := HKj.out.k1.big
          go_wp2_with fail
          go_cut [7, 8] (fun s7 s8 wx => ∃ b7 b8, s7 = .pointer (some ⟨b7, 0, none⟩) ∧ s8 = .pointer (some ⟨b8, 0, none⟩) ∧ Hid (Kb wx b7 (.cells #[.string cn, .string sup, .slice a1 p1 q1, .slice a2 p2 q2] 57) ∧ Kb wx b8 (.cells #[.string cn, .string sup, .slice b1 r1 t1, .slice b2 r2 t2] 57) ∧ Below wr.heap.size wr wx))
          case first =>
            go_big_region
            all_goals go_wp2_with fail
            · go_meet
              have hq := two_al wr (.cells #[.string cn, .string sup, .slice a1 p1 q1, .slice a2 p2 q2] 57) (.cells #[.string cn, .string sup, .slice b1 r1 t1, .slice b2 r2 t2] 57)
              exact ⟨_, _, rfl, rfl, Lib.hid hq⟩
            · go_meet
              have hq := two_al wr (.cells #[.string cn, .string sup, .slice b1 r1 t1, .slice b2 r2 t2] 57) (.cells #[.string cn, .string sup, .slice a1 p1 q1, .slice a2 p2 q2] 57)
              exact ⟨_, _, rfl, rfl, Lib.hid ⟨hq.2.1, hq.1, hq.2.2⟩⟩
          case rest =>
            obtain ⟨b7, b8, rfl, rfl, HQ⟩ := hcut
            have HKx := Lib.hid (HKj.out.step HQ.out.2.2)
            have HX := Lib.hid (And.intro HQ.out.1 HQ.out.2.1)
            have HS1 := Lib.hid (lists_same wc ⟨_, _, _, rfl, HL.out.1.1.below HQ.out.2.2⟩ ⟨_, _, _, rfl, HL.out.1.2.below HQ.out.2.2⟩)
            clear c0 c1 c2 c3 y0 y1 y2 y3 z0 z1 z2 z3
            obtain ⟨c0, c1, c2, c3⟩ := HKx.out.cells
            have x0 := HX.out.1.cell (i := 0) rfl
            have x1 := HX.out.1.cell (i := 1) rfl
            have x2 := HX.out.1.cell (i := 2) rfl
            have x3 := HX.out.1.cell (i := 3) rfl
            have v0 := HX.out.2.cell (i := 0) rfl
            have v1 := HX.out.2.cell (i := 1) rfl
            have v2 := HX.out.2.cell (i := 2) rfl
            have v3 := HX.out.2.cell (i := 3) rfl
            go_wp2_with fail
            refine HS1.out.mono ?_
            rintro e w5 ⟨rfl, hb⟩
            have HKy := Lib.hid (HKx.out.step hb)
            have HX := Lib.hid (And.intro (HX.out.1.step hb) (HX.out.2.step hb))
            have HB5 := Lib.hid (HQ.out.2.2.trans (hb.mono HQ.out.2.2.size))
            have HS2 := Lib.hid (lists_same w5 ⟨_, _, _, rfl, HL.out.2.1.below HB5.out⟩ ⟨_, _, _, rfl, HL.out.2.2.below HB5.out⟩)
            clear c0 c1 c2 c3 x0 x1 x2 x3 v0 v1 v2 v3 hb
            obtain ⟨c0, c1, c2, c3⟩ := HKy.out.cells
            have x2 := HX.out.1.cell (i := 2) rfl
            have x3 := HX.out.1.cell (i := 3) rfl
            have v2 := HX.out.2.cell (i := 2) rfl
            have v3 := HX.out.2.cell (i := 3) rfl
            go_wp2_with fail
            refine HS2.out.mono ?_
            rintro e w6 ⟨rfl, hb⟩
            have HKz := Lib.hid (HKy.out.step hb)
            clear c0 c1 c2 c3 x2 x3 v2 v3 hb
            go_wp2_with fail
            go_roundw
            case rel => exact ⟨k + 1, by omega, by go_num, HKz⟩
            case measure => simp [intOf]; omega
        · obtain rfl : m = k := by omega
          have d1 : decide ((m : Int) < (m : Int)) = false := decide_eq_false (by omega)
          go_wp2_with fail
          go_ret
          exact ⟨rfl, HKj.out.low⟩
end Go.Proofs.YtclfjdnemafmeaaGreatDoor
end

section
/-
  Pure facts of the text form: pieces between bytes, and what reading a text and writing it undo of one another. No condition.
-/
set_option maxRecDepth 100000
namespace Go.Proofs.YtclfjdnemafmeaaGreatDoor
open Go.RowKit Go.PlainAid
theorem pc_ne (c : UInt8) (l : List UInt8) : pieces c l ≠ [] := by
  cases l with
  | nil => simp [pieces]
  | cons x r =>
    unfold pieces
    split
    · simp
    · split <;> simp
theorem pc_app (c : UInt8) (y : List UInt8) : ∀ x : List UInt8, c ∉ x → pieces c (x ++ c :: y) = x :: pieces c y
  | [], _ => by show pieces c (c :: y) = _; conv => lhs; unfold pieces; rw [if_pos rfl]
  | a :: x, h => by
    have ha : a ≠ c := fun e => h (by rw [e]; simp)
    have ih := pc_app c y x (fun k => h (by simp [k]))
    show pieces c (a :: (x ++ c :: y)) = _
    conv => lhs; unfold pieces
    rw [if_neg ha, ih]
theorem pc_none (c : UInt8) (x : List UInt8) (h : c ∉ x) : pieces c x = [x] := pieces_miss c x (fun j hj => h (List.mem_of_getElem? hj))
theorem join_two (x y : List UInt8) (r : List (List UInt8)) (c : UInt8) : Lib.join (x :: y :: r) [c] = x ++ c :: Lib.join (y :: r) [c] := by
  rw [Lib.join_cons, Lib.join_cons]; simp [Lib.joinTail]
theorem pc_join (c : UInt8) : ∀ ps : List (List UInt8), ps ≠ [] → (∀ p ∈ ps, c ∉ p) → pieces c (Lib.join ps [c]) = ps
  | [], h, _ => absurd rfl h
  | [x], _, h => by rw [Lib.join_one]; exact pc_none c x (h x (by simp))
  | x :: y :: r, _, h => by
    rw [join_two, pc_app c _ x (h x (by simp)), pc_join c (y :: r) (by simp) (fun p hp => h p (by simp [hp]))]
theorem join_pc (c : UInt8) : ∀ l : List UInt8, Lib.join (pieces c l) [c] = l
  | [] => by simp [pieces, Lib.join_one]
  | a :: r => by
    have ih := join_pc c r
    unfold pieces
    split
    · rename_i e
      cases hp : pieces c r with
      | nil => exact absurd hp (pc_ne c r)
      | cons q qs => rw [hp] at ih; rw [join_two, ih, e]; rfl
    · split
      · rename_i q qs e
        rw [e] at ih
        rw [Lib.join_cons] at ih ⊢
        rw [List.cons_append, ih]
      · rename_i e; exact absurd e (pc_ne c r)
theorem splitB_pc (c : UInt8) : ∀ (n : Nat) (s : ByteArray), s.size ≤ n → (Lib.splitB ⟨#[c]⟩ 0 (Lib.countB s ⟨#[c]⟩) s).map (·.data.toList) = pieces c s.data.toList := by
  intro n
  induction n with
  | zero =>
    intro s hs
    have h0 : s.data.toList = [] := List.length_eq_zero_iff.1 (by rw [← Lib.size_eq]; omega)
    have hi : Lib.indexB s ⟨#[c]⟩ = -1 := by
      rcases Lib.index_spec s.data.toList [c] with ⟨hi, _⟩ | ⟨i, _, hle, ho, _⟩
      · exact hi
      · have hg := (occ_one _ _ _).1 ho
        rw [h0] at hg; simp at hg
    rw [Lib.splitB_miss _ _ _ _ hi, h0]
    simp [pieces, h0]
  | succ n ih =>
    intro s hs
    rcases Lib.index_spec s.data.toList [c] with ⟨hi, hn⟩ | ⟨i, hi, hle, ho, hno⟩
    · have hi' : Lib.indexB s ⟨#[c]⟩ = -1 := hi
      rw [Lib.splitB_miss _ _ _ _ hi', pieces_miss c s.data.toList (fun j hj => by
        have hlt : j < s.data.toList.length := (List.getElem?_eq_some_iff.1 hj).1
        have := hn j (by omega)
        rw [(occ_one _ _ _).2 hj] at this
        cases this)]
      rfl
    · have hi' : Lib.indexB s ⟨#[c]⟩ = i := hi
      have hget := (occ_one _ _ _).1 ho
      have hlt : i < s.data.toList.length := (List.getElem?_eq_some_iff.1 hget).1
      have hno' : ∀ j, j < i → s.data.toList[j]? ≠ some c := fun j hj h => by
        have := hno j hj
        rw [(occ_one _ _ _).2 h] at this
        cases this
      have h1 : (⟨#[c]⟩ : ByteArray).size = 1 := rfl
      rw [Lib.countB_hit s ⟨#[c]⟩ i (by rw [h1]; exact Nat.le_refl _) hi', Nat.add_comm, Lib.splitB_hit _ _ _ _ i hi', List.map_cons, h1]
      have hsz := Lib.size_eq s
      have hr := ih (s.extract (i + 1) s.size) (by rw [Lib.size_eq, Lib.extract_to_end, List.length_drop]; omega)
      rw [hr, pieces_hit c _ i hget hno', Lib.extract_to_end, Lib.extract_from_zero, Nat.add_zero]
theorem partsB_pc (c : UInt8) (s : ByteArray) : (partsB c s).map (·.data.toList) = pieces c s.data.toList := splitB_pc c _ s (Nat.le_refl _)
theorem map_inj {a b : List ByteArray} (h : a.map (·.data.toList) = b.map (·.data.toList)) : a = b := by
  have : ∀ x : List ByteArray, x.map (fun s => ofL s.data.toList) = x := fun x => by
    conv => rhs; rw [← List.map_id x]
    exact List.map_congr_left (fun s _ => Lib.mk_data s)
  have h2 := congrArg (List.map ofL) h
  rw [List.map_map, List.map_map] at h2
  have e1 := this a
  have e2 := this b
  rw [← e1, ← e2]
  exact h2
/-- split of a join, join of a split -/
theorem parts_join {c : UInt8} {l : List ByteArray} (hl : l ≠ []) (h : ∀ s ∈ l, c ∉ s.data.toList) : partsB c (joinB c l) = l := by
  refine map_inj ?_
  rw [partsB_pc]
  show pieces c (Lib.join (l.map (·.data.toList)) [c]) = _
  exact pc_join c _ (by simpa using hl) (fun p hp => by obtain ⟨s, hs, rfl⟩ := List.mem_map.1 hp; exact h s hs)
theorem join_parts (c : UInt8) (s : ByteArray) : joinB c (partsB c s) = s := by
  unfold joinB
  rw [partsB_pc, join_pc]
theorem name_clear {s : ByteArray} (h : nameB s = true) : (44 : UInt8) ∉ s.data.toList ∧ (32 : UInt8) ∉ s.data.toList ∧ (10 : UInt8) ∉ s.data.toList := by
  have hall : allB nameP s = true := by
    unfold nameB at h
    simp only [Bool.and_eq_true] at h
    exact h.2
  rw [Nam.allB_list, List.all_eq_true] at hall
  refine ⟨fun k => ?_, fun k => ?_, fun k => ?_⟩
  · have := hall _ k; revert this; decide
  · have := hall _ k; revert this; decide
  · have := hall _ k; revert this; decide
theorem name_dash {s : ByteArray} (h : nameB s = true) : s ≠ dashN := fun e => by rw [e] at h; revert h; decide +kernel
theorem join_free {c b : UInt8} (hb : c ≠ b) : ∀ ps : List (List UInt8), (∀ p ∈ ps, c ∉ p) → c ∉ Lib.join ps [b]
  | [], _ => by rw [Lib.join_nil]; simp
  | [x], h => by rw [Lib.join_one]; exact h x (by simp)
  | x :: y :: r, h => by
    rw [join_two]
    intro k
    rcases List.mem_append.1 k with k | k
    · exact h x (by simp) k
    · rcases List.mem_cons.1 k with k | k
      · exact hb k
      · exact join_free hb (y :: r) (fun p hp => h p (by simp [hp])) k
theorem joinB_free {c b : UInt8} (hb : c ≠ b) {l : List ByteArray} (h : ∀ s ∈ l, c ∉ s.data.toList) : c ∉ (joinB b l).data.toList :=
  join_free hb _ (fun p hp => by obtain ⟨s, hs, rfl⟩ := List.mem_map.1 hp; exact h s hs)
theorem cut_mk (x y : List UInt8) (b : UInt8) (hx : b ∉ x) : cutOk (ofL (x ++ b :: y)) ⟨#[b]⟩ = true ∧ cutBef (ofL (x ++ b :: y)) ⟨#[b]⟩ = ofL x ∧ cutAft (ofL (x ++ b :: y)) ⟨#[b]⟩ = ofL y := by
  have e0 : (ofL (x ++ b :: y)).data.toList = x ++ b :: y := rfl
  have hp := pc_app b y x hx
  rcases cut_one (ofL (x ++ b :: y)) b with k | k
  · have k2 := k.2.1
    rw [e0, hp] at k2
    injection k2 with h1 h2
    refine ⟨k.1, ?_, ?_⟩
    · exact (Lib.mk_data _).symm.trans (congrArg ofL h1.symm)
    · have h3 := (join_pc b (cutAft (ofL (x ++ b :: y)) ⟨#[b]⟩).data.toList).symm.trans ((congrArg (fun p => Lib.join p [b]) h2.symm).trans (join_pc b y))
      exact (Lib.mk_data _).symm.trans (congrArg ofL h3)
  · have k2 := k.2.1
    rw [e0, hp] at k2
    injection k2 with h1 h2
    exact absurd h2 (pc_ne b y)
theorem cut_split (t : ByteArray) (b : UInt8) (h : cutOk t ⟨#[b]⟩ = true) : t.data.toList = (cutBef t ⟨#[b]⟩).data.toList ++ b :: (cutAft t ⟨#[b]⟩).data.toList := by
  rcases cut_one t b with k | k
  · have h1 := join_pc b t.data.toList
    rw [k.2.1] at h1
    have h2 := join_pc b (cutAft t ⟨#[b]⟩).data.toList
    cases e : pieces b (cutAft t ⟨#[b]⟩).data.toList with
    | nil => exact absurd e (pc_ne b _)
    | cons q r =>
      rw [e] at h1 h2
      rw [← h1, join_two, h2]
  · rw [k.1] at h; cases h
/-- the words of a line -/
def tyWords (t : Ty) : List ByteArray := [typeN, t.name, synW t.syn] ++ if t.single then [singleN] else []
def clWords (c : Cl) : List ByteArray := [classN, c.name, superW c.super, listW c.must, listW c.may]
/-- a type, a class that a line holds -/
structure TyOk (t : Ty) : Prop where
  nm : nameB t.name = true
  lo : 1 ≤ t.syn
  hi : t.syn ≤ 5
structure ClOk (c : Cl) : Prop where
  nm : nameB c.name = true
  sup : c.super.size ≠ 0 → nameB c.super = true
  must : ∀ s ∈ c.must, nameB s = true
  may : ∀ s ∈ c.may, nameB s = true
theorem syn_free {x : Int} {c : UInt8} (hc : c = 32 ∨ c = 10) : c ∉ (synW x).data.toList := by
  unfold synW
  rcases hc with rfl | rfl <;> (repeat' split) <;> decide
theorem rd_syn {x : Int} (h1 : 1 ≤ x) (h5 : x ≤ 5) : rdSyn (synW x) = x := by
  rcases (show x = 1 ∨ x = 2 ∨ x = 3 ∨ x = 4 ∨ x = 5 by omega) with rfl | rfl | rfl | rfl | rfl <;> decide +kernel
theorem rd_ok {x : Int} (h1 : 1 ≤ x) (h5 : x ≤ 5) : rdOk (synW x) = true := by
  unfold rdOk; rw [rd_syn h1 h5]; exact decide_eq_true (by omega)
theorem tyWords_free {t : Ty} (h : TyOk t) {c : UInt8} (hc : c = 32 ∨ c = 10) : ∀ s ∈ tyWords t, c ∉ s.data.toList := fun s hs => by
  have hn := name_clear h.nm
  unfold tyWords at hs
  rcases List.mem_append.1 hs with k | k
  · simp only [List.mem_cons, List.not_mem_nil, or_false] at k
    rcases k with rfl | rfl | rfl
    · rcases hc with rfl | rfl <;> decide
    · rcases hc with rfl | rfl
      · exact hn.2.1
      · exact hn.2.2
    · exact syn_free hc
  · split at k
    · rw [List.mem_singleton.1 k]; rcases hc with rfl | rfl <;> decide
    · cases k
theorem rdType_two (a b : ByteArray) : rdType [a, b] = rdTy [a, b] false := by unfold rdType; exact if_pos rfl
theorem rdType_three (a b : ByteArray) : rdType [a, b, singleN] = rdTy [a, b, singleN] true := by unfold rdType; rw [if_neg (show ¬ [a, b, singleN].length = 2 by simp), if_pos ⟨rfl, rfl⟩]
theorem rdTy_ok {l : List ByteArray} {a b : ByteArray} {sg : Bool} (h0 : partAt l 0 = a) (h1 : partAt l 1 = b) (hb : rdOk b = true) (ha : nameB a = true) : rdTy l sg = some ⟨a, rdSyn b, sg⟩ := by
  unfold rdTy; rw [h0, h1, if_pos ⟨hb, ha⟩]
theorem rdClass_ok {a b c d : ByteArray} (h1 : nameB a = true) (h2 : supB b = true) (h3 : rdListB c = true) (h4 : rdListB d = true) : rdClass [a, b, c, d] = some ⟨a, supV b, rdListV c, rdListV d⟩ := by
  have e0 : partAt [a, b, c, d] 0 = a := rfl
  have e1 : partAt [a, b, c, d] 1 = b := rfl
  have e2 : partAt [a, b, c, d] 2 = c := rfl
  have e3 : partAt [a, b, c, d] 3 = d := rfl
  unfold rdClass
  rw [e0, e1, e2, e3, if_pos ⟨rfl, h1⟩, if_pos ⟨h2, h3, h4⟩]
theorem ty_line {ts : List Ty} {t : Ty} (h : TyOk t) : lineL ts [] (joinB 32 (tyWords t)) = some (ts ++ [t], []) := by
  have hp : partsB 32 (joinB 32 (tyWords t)) = tyWords t := parts_join (by unfold tyWords; simp) (tyWords_free h (.inl rfl))
  have ht : rdType (tyWords t).tail = some t := by
    obtain ⟨nm, syn, sg⟩ := t
    have h1 := rd_ok h.lo h.hi
    have h2 := rd_syn h.lo h.hi
    have h3 := h.nm
    simp only at h1 h2 h3
    cases sg
    · show rdType [nm, synW syn] = _
      rw [rdType_two, rdTy_ok (a := nm) (b := synW syn) rfl rfl h1 h3, h2]
    · show rdType [nm, synW syn, singleN] = _
      rw [rdType_three, rdTy_ok (a := nm) (b := synW syn) rfl rfl h1 h3, h2]
  unfold lineL
  rw [hp, show partAt (tyWords t) 0 = typeW from rfl, if_pos rfl, ht]
  rfl
theorem list_free {l : List ByteArray} (h : ∀ s ∈ l, nameB s = true) {c : UInt8} (hc : c = 32 ∨ c = 10) : c ∉ (listW l).data.toList := by
  unfold listW
  split
  · rcases hc with rfl | rfl <;> decide
  · refine joinB_free (by rcases hc with rfl | rfl <;> decide) (fun s hs => ?_)
    have hn := name_clear (h s hs)
    rcases hc with rfl | rfl
    · exact hn.2.1
    · exact hn.2.2
theorem rd_list {l : List ByteArray} (h : ∀ s ∈ l, nameB s = true) : rdListB (listW l) = true ∧ rdListV (listW l) = l := by
  by_cases h0 : l = []
  · subst h0; exact ⟨by decide +kernel, by decide +kernel⟩
  · have hl : listW l = joinB 44 l := if_neg (fun k => h0 (List.length_eq_zero_iff.1 k))
    have hp : partsB 44 (joinB 44 l) = l := parts_join h0 (fun s hs => (name_clear (h s hs)).1)
    have hall : l.all nameB = true := List.all_eq_true.2 h
    have hd : joinB 44 l ≠ dashN := fun e => by
      rw [e] at hp
      have e2 : partsB 44 dashN = [dashN] := by decide +kernel
      rw [e2] at hp
      have := h dashN (by rw [← hp]; simp)
      revert this; decide +kernel
    rw [hl]
    unfold rdListB rdListV
    rw [hp, hall, if_neg hd, if_pos rfl]
    exact ⟨by rw [Bool.or_true], rfl⟩
theorem clWords_free {c : Cl} (h : ClOk c) {x : UInt8} (hx : x = 32 ∨ x = 10) : ∀ s ∈ clWords c, x ∉ s.data.toList := fun s hs => by
  unfold clWords at hs
  simp only [List.mem_cons, List.not_mem_nil, or_false] at hs
  rcases hs with rfl | rfl | rfl | rfl | rfl
  · rcases hx with rfl | rfl <;> decide
  · have hn := name_clear h.nm
    rcases hx with rfl | rfl
    · exact hn.2.1
    · exact hn.2.2
  · unfold superW
    split
    · rcases hx with rfl | rfl <;> decide
    · rename_i hz
      have hn := name_clear (h.sup hz)
      rcases hx with rfl | rfl
      · exact hn.2.1
      · exact hn.2.2
  · exact list_free h.must hx
  · exact list_free h.may hx
theorem cl_line {ts : List Ty} {cs : List Cl} {c : Cl} (h : ClOk c) : lineL ts cs (joinB 32 (clWords c)) = some (ts, cs ++ [c]) := by
  have hp : partsB 32 (joinB 32 (clWords c)) = clWords c := parts_join (by unfold clWords; simp) (clWords_free h (.inl rfl))
  have ht : rdClass (clWords c).tail = some c := by
    obtain ⟨nm, su, mu, ma⟩ := c
    have h1 := rd_list h.must
    have h2 := rd_list h.may
    have h3 := h.nm
    have h4 : supB (superW su) = true ∧ supV (superW su) = su := by
      unfold superW
      by_cases hz : su.size = 0
      · rw [if_pos hz]
        exact ⟨by decide +kernel, by rw [lowS_empty hz]; decide +kernel⟩
      · rw [if_neg hz]
        have hn := h.sup hz
        unfold supB supV
        rw [if_neg (name_dash hn)]
        exact ⟨by rw [hn, Bool.or_true], rfl⟩
    simp only at h1 h2 h3 h4
    show rdClass [nm, superW su, listW mu, listW ma] = _
    rw [rdClass_ok h3 h4.1 h1.1 h2.1, h4.2, h1.2, h2.2]
  unfold lineL
  rw [hp, show partAt (clWords c) 0 = classN from rfl, if_neg (by decide +kernel), if_pos (show classN = classW from rfl), ht]
theorem read_tys : ∀ (b a : List Ty) (n : Nat) (rest : List UInt8), (∀ t ∈ b, TyOk t) → readL a [] (ofL (tyL b ++ rest)) n = readL (a ++ b) [] (ofL rest) (n + b.length)
  | [], a, n, rest, _ => by rw [List.append_nil]; rfl
  | t :: b, a, n, rest, h => by
    have ht := h t (by simp)
    have e : tyL (t :: b) ++ rest = (joinB 32 (tyWords t)).data.toList ++ 10 :: (tyL b ++ rest) := by
      show (typeLn t).data.toList ++ tyL b ++ rest = _
      have : (typeLn t).data.toList = (joinB 32 (tyWords t)).data.toList ++ [10] := by unfold typeLn; rw [ByteArray.data_append, Array.toList_append]; rfl
      rw [this]; simp
    obtain ⟨c1, c2, c3⟩ := cut_mk (joinB 32 (tyWords t)).data.toList (tyL b ++ rest) 10 (joinB_free (by decide) (tyWords_free ht (.inr rfl)))
    rw [e, readL_step (r := (a ++ [t], [])) (fun k => by have := congrArg (fun s : ByteArray => s.data.toList) k; simp [ofL] at this) c1 (by rw [c2]; exact (congrArg _ (Lib.mk_data _)).trans (ty_line ht)), c3, read_tys b (a ++ [t]) (n + 1) rest (fun x hx => h x (by simp [hx])), List.append_assoc, List.length_cons]
    congr 1; omega
theorem read_cls (ts : List Ty) : ∀ (b a : List Cl) (n : Nat) (rest : List UInt8), (∀ c ∈ b, ClOk c) → readL ts a (ofL (clL b ++ rest)) n = readL ts (a ++ b) (ofL rest) (n + b.length)
  | [], a, n, rest, _ => by rw [List.append_nil]; rfl
  | t :: b, a, n, rest, h => by
    have ht := h t (by simp)
    have e : clL (t :: b) ++ rest = (joinB 32 (clWords t)).data.toList ++ 10 :: (clL b ++ rest) := by
      show (classLn t).data.toList ++ clL b ++ rest = _
      have : (classLn t).data.toList = (joinB 32 (clWords t)).data.toList ++ [10] := by unfold classLn; rw [ByteArray.data_append, Array.toList_append]; rfl
      rw [this]; simp
    obtain ⟨c1, c2, c3⟩ := cut_mk (joinB 32 (clWords t)).data.toList (clL b ++ rest) 10 (joinB_free (by decide) (clWords_free ht (.inr rfl)))
    rw [e, readL_step (r := (ts, a ++ [t])) (fun k => by have := congrArg (fun s : ByteArray => s.data.toList) k; simp [ofL] at this) c1 (by rw [c2]; exact (congrArg _ (Lib.mk_data _)).trans (cl_line ht)), c3, read_cls ts b (a ++ [t]) (n + 1) rest (fun x hx => h x (by simp [hx])), List.append_assoc, List.length_cons]
    congr 1; omega
theorem read_text {ts : List Ty} {cs : List Cl} (h1 : ∀ t ∈ ts, TyOk t) (h2 : ∀ c ∈ cs, ClOk c) : readL [] [] (ofL (textL ts cs)) 1 = (some (ts, cs), 0) := by
  unfold textL
  rw [read_tys ts [] 1 (clL cs) h1, List.nil_append, ← List.append_nil (clL cs), read_cls ts cs [] _ [] h2, List.nil_append]
  exact readL_end ts cs _
end Go.Proofs.YtclfjdnemafmeaaGreatDoor
end

section
/-
  Pure facts of P7.8: a schema is read from its text form, and a string that is read is the text form. No condition.
-/
set_option maxRecDepth 100000
namespace Go.Proofs.YtclfjdnemafmeaaGreatDoor
open Go.RowKit Go.PlainAid
theorem name_same {a b : ByteArray} (h : lowS a = lowS b) (k : nameB a = true) : nameB b = true := by
  rw [← Nam.nameB_low b, ← h, Nam.nameB_low]; exact k
theorem okT {ts : List Ty} {j : Nat} (h : errT ts j = 0) : TyOk (tyAt ts j) := by
  unfold errT at h
  split at h
  · cases h
  · rename_i h1
    split at h
    · cases h
    · split at h
      · cases h
      · rename_i h3
        exact ⟨by simpa using h1, by omega, by omega⟩
theorem okC {ts : List Ty} {cs : List Cl} (hT : ∀ t ∈ ts, TyOk t) (hN : ∀ c ∈ cs, nameB c.name = true) {k : Nat} (h : errC ts cs k = 0) : ClOk (clAt cs k) := by
  have ty : ∀ l : List ByteArray, typedB ts l = true → ∀ s ∈ l, nameB s = true := fun l hl s hs => by
    have h1 := List.all_eq_true.1 hl s hs
    obtain ⟨t, ht⟩ := Option.isSome_iff_exists.1 h1
    have h2 := List.find?_some ht
    exact name_same (of_decide_eq_true h2) (hT t (tyOf_mem ht)).nm
  unfold errC at h
  split at h
  · cases h
  · rename_i h1
    split at h
    · cases h
    · split at h
      · cases h
      · rename_i h3
        split at h
        · cases h
        · split at h
          · cases h
          · rename_i h5
            refine ⟨by simpa using h1, fun hz => ?_, ?_, ?_⟩
            · have h6 : (clOf (cs.take k) (clAt cs k).super).isSome = true := by
                cases hc : (clOf (cs.take k) (clAt cs k).super).isSome with
                | true => rfl
                | false => exact absurd ⟨hz, hc⟩ h3
              obtain ⟨c, hc⟩ := Option.isSome_iff_exists.1 h6
              exact name_same (clOf_name hc) (hN c (List.mem_of_mem_take (clOf_mem hc)))
            · refine ty _ ?_
              cases hm : typedB ts (clAt cs k).must with
              | true => rfl
              | false => exact absurd (.inl hm) h5
            · refine ty _ ?_
              cases hm : typedB ts (clAt cs k).may with
              | true => rfl
              | false => exact absurd (.inr hm) h5
theorem nameC {ts : List Ty} {cs : List Cl} {k : Nat} (h : errC ts cs k = 0) : nameB (clAt cs k).name = true := by
  unfold errC at h
  split at h
  · cases h
  · rename_i h1; simpa using h1
theorem okS {ts : List Ty} {cs : List Cl} (h : chkS ts cs = 0) : (∀ t ∈ ts, TyOk t) ∧ ∀ c ∈ cs, ClOk c := by
  obtain ⟨_, _, h1, h2⟩ := chk_parts h
  have hT : ∀ t ∈ ts, TyOk t := fun t ht => by
    obtain ⟨j, hj, rfl⟩ := mem_ty ht
    exact okT (h1 j hj)
  have hN : ∀ c ∈ cs, nameB c.name = true := fun c hc => by
    obtain ⟨j, hj, rfl⟩ := mem_cl hc
    exact nameC (h2 j hj)
  refine ⟨hT, fun c hc => ?_⟩
  obtain ⟨j, hj, rfl⟩ := mem_cl hc
  exact okC hT hN (h2 j hj)
/-- the text of an accepted schema is read as the schema -/
theorem ret_text {ts : List Ty} {cs : List Cl} (h : txtE ts cs = 0) : parE (txtV ts cs) = 0 ∧ parN (txtV ts cs) = 0 ∧ parR (txtV ts cs) = (ts, cs) ∧ (txtV ts cs).size ≤ 4096 := by
  have hc : chkS ts cs = 0 := by
    unfold txtE at h
    split at h
    · rename_i h0; exact absurd h h0
    · rename_i h0; simpa using h0
  have hl : ¬ 4096 < (textL ts cs).length := by
    unfold txtE at h
    rw [if_neg (by rw [hc]; simp)] at h
    intro k; rw [if_pos k] at h; cases h
  have hv : txtV ts cs = ofL (textL ts cs) := by unfold txtV; rw [if_neg (by rw [hc]; simp), if_neg hl]; rfl
  have hsz : ¬ 4096 < (ofL (textL ts cs)).size := by rw [Lib.size_eq]; exact hl
  obtain ⟨h1, h2⟩ := okS hc
  have hr := read_text h1 h2
  rw [hv]
  unfold parE parN parR
  rw [if_neg hsz, if_neg hsz, if_neg hsz, hr]
  exact ⟨hc, rfl, if_pos hc, by omega⟩
theorem syn_back {s : ByteArray} (h : rdOk s = true) : synW (rdSyn s) = s ∧ 1 ≤ rdSyn s ∧ rdSyn s ≤ 5 := by
  unfold rdOk at h
  have h := of_decide_eq_true h
  unfold rdSyn at h ⊢
  split
  · rename_i e; exact ⟨e.symm, by decide, by decide⟩
  · split
    · rename_i e; exact ⟨e.symm, by decide, by decide⟩
    · split
      · rename_i e; exact ⟨e.symm, by decide, by decide⟩
      · split
        · rename_i e; exact ⟨e.symm, by decide, by decide⟩
        · split
          · rename_i e; exact ⟨e.symm, by decide, by decide⟩
          · rename_i e1 e2 e3 e4 e5; rw [if_neg e1, if_neg e2, if_neg e3, if_neg e4, if_neg e5] at h; exact absurd rfl h
theorem list_back {s : ByteArray} (h : rdListB s = true) : listW (rdListV s) = s := by
  unfold rdListB at h
  unfold rdListV
  by_cases hd : s = dashN
  · rw [if_pos hd, hd]; rfl
  · rw [if_neg hd]
    rw [Bool.or_eq_true] at h
    rcases h with h | h
    · exact absurd (of_decide_eq_true h) hd
    · rw [if_pos h]
      unfold listW
      rw [if_neg (by rw [partsB_len]; omega)]
      exact join_parts 44 s
theorem sup_back {s : ByteArray} (h : supB s = true) : superW (supV s) = s := by
  unfold supB at h
  unfold supV superW
  by_cases hd : s = dashN
  · rw [if_pos hd, hd]; rfl
  · rw [if_neg hd]
    rw [Bool.or_eq_true] at h
    rcases h with h | h
    · exact absurd (of_decide_eq_true h) hd
    · exact if_neg (nameB_ne h)
theorem ty_back {l : List ByteArray} {t : Ty} (h : rdType l = some t) : joinB 32 (tyWords t) = joinB 32 (typeN :: l) := by
  unfold rdType at h
  have ty : ∀ sg, rdTy l sg = some t → t = ⟨partAt l 0, rdSyn (partAt l 1), sg⟩ ∧ synW (rdSyn (partAt l 1)) = partAt l 1 := fun sg h => by
    unfold rdTy at h
    split at h
    · rename_i hc
      exact ⟨(Option.some.inj h).symm, (syn_back hc.1).1⟩
    · cases h
  split at h
  · rename_i hl
    obtain ⟨e, hs⟩ := ty false h
    match l, hl with
    | [a, b], _ =>
      rw [e]
      unfold tyWords
      show joinB 32 ([typeN, partAt [a, b] 0, synW (rdSyn (partAt [a, b] 1))] ++ []) = _
      rw [hs]; rfl
  · split at h
    · rename_i hl
      obtain ⟨e, hs⟩ := ty true h
      match l, hl.1 with
      | [a, b, c], _ =>
        rw [e]
        unfold tyWords
        show joinB 32 ([typeN, partAt [a, b, c] 0, synW (rdSyn (partAt [a, b, c] 1))] ++ [singleN]) = _
        rw [hs, ← hl.2]; rfl
    · cases h
theorem cl_back {l : List ByteArray} {c : Cl} (h : rdClass l = some c) : joinB 32 (clWords c) = joinB 32 (classN :: l) := by
  unfold rdClass at h
  split at h
  · rename_i hl
    split at h
    · rename_i hc
      have e := (Option.some.inj h).symm
      match l, hl.1 with
      | [a, b, m, y], _ =>
        rw [e]
        unfold clWords
        show joinB 32 [classN, partAt [a, b, m, y] 0, superW (supV (partAt [a, b, m, y] 1)), listW (rdListV (partAt [a, b, m, y] 2)), listW (rdListV (partAt [a, b, m, y] 3))] = _
        rw [sup_back hc.1, list_back hc.2.1, list_back hc.2.2]; rfl
    · cases h
  · cases h
theorem parts_head {s w : ByteArray} (h : partAt (partsB 32 s) 0 = w) : joinB 32 (w :: (partsB 32 s).tail) = s := by
  have e : partsB 32 s = w :: (partsB 32 s).tail := by
    cases hp : partsB 32 s with
    | nil => have := partsB_len 32 s; rw [hp] at this; simp at this
    | cons x r => rw [hp] at h; rw [← h]; rfl
  rw [← e]; exact join_parts 32 s
/-- a line that is read is the line of what is read -/
theorem line_back {ts : List Ty} {cs : List Cl} {s : ByteArray} {r : List Ty × List Cl} (h : lineL ts cs s = some r) : textL r.1 r.2 = textL ts cs ++ (s.data.toList ++ [10]) := by
  unfold lineL at h
  split at h
  · rename_i h0
    split at h
    · rename_i t ht
      split at h
      · rename_i hcs
        obtain rfl := (Option.some.inj h).symm
        have e1 := ty_back ht
        rw [show typeN = typeW from rfl, parts_head h0] at e1
        subst hcs
        show tyL (ts ++ [t]) ++ clL [] = tyL ts ++ clL [] ++ _
        have e2 : tyL (ts ++ [t]) = tyL ts ++ (s.data.toList ++ [10]) := by
          unfold tyL
          rw [List.flatMap_append]
          congr 1
          rw [List.flatMap_cons, List.flatMap_nil, List.append_nil]
          unfold typeLn
          show (joinB 32 (tyWords t) ++ _).data.toList = _
          rw [e1, ByteArray.data_append, Array.toList_append]
        rw [e2]; simp [clL]
      · cases h
    · cases h
  · split at h
    · rename_i h0
      split at h
      · rename_i c hc
        obtain rfl := (Option.some.inj h).symm
        have e1 := cl_back hc
        rw [show classN = classW from rfl, parts_head h0] at e1
        show tyL ts ++ clL (cs ++ [c]) = tyL ts ++ clL cs ++ _
        have e2 : clL (cs ++ [c]) = clL cs ++ (s.data.toList ++ [10]) := by
          unfold clL
          rw [List.flatMap_append]
          congr 1
          rw [List.flatMap_cons, List.flatMap_nil, List.append_nil]
          unfold classLn
          show (joinB 32 (clWords c) ++ _).data.toList = _
          rw [e1, ByteArray.data_append, Array.toList_append]
        rw [e2, List.append_assoc]
      · cases h
    · cases h
theorem read_back : ∀ (n : Nat) (s : ByteArray) (ts : List Ty) (cs : List Cl) (k : Nat) (r : List Ty × List Cl), s.size ≤ n → (readL ts cs s k).1 = some r → textL r.1 r.2 = textL ts cs ++ s.data.toList := by
  intro n
  induction n with
  | zero =>
    intro s ts cs k r hs h
    have e : s = ⟨#[]⟩ := lowS_empty (by omega)
    subst e
    rw [readL_end] at h
    obtain rfl := (Option.some.inj h).symm
    show textL ts cs = textL ts cs ++ []
    rw [List.append_nil]
  | succ n ih =>
    intro s ts cs k r hs h
    by_cases e : s = ⟨#[]⟩
    · subst e
      rw [readL_end] at h
      obtain rfl := (Option.some.inj h).symm
      show textL ts cs = textL ts cs ++ []
      rw [List.append_nil]
    · cases hc : cutOk s ⟨#[10]⟩ with
      | false => rw [readL_cut e hc] at h; cases h
      | true =>
        cases hl : lineL ts cs (cutBef s ⟨#[10]⟩) with
        | none => rw [readL_bad e hl] at h; cases h
        | some q =>
          rw [readL_step e hc hl] at h
          have h1 := ih _ q.1 q.2 _ r (by have := (cut_lt hc).1; omega) h
          rw [h1, line_back hl, cut_split s 10 hc]
          simp
/-- a string that is read is the text of what is read -/
theorem ret_back {s : ByteArray} (h : parE s = 0) : txtE (parR s).1 (parR s).2 = 0 ∧ txtV (parR s).1 (parR s).2 = s ∧ chkS (parR s).1 (parR s).2 = 0 := by
  have hs : ¬ 4096 < s.size := fun k => by unfold parE at h; rw [if_pos k] at h; cases h
  unfold parE at h
  rw [if_neg hs] at h
  unfold parR
  rw [if_neg hs]
  cases hr : (readL [] [] s 1).1 with
  | none => rw [hr] at h; cases h
  | some r =>
    rw [hr] at h
    simp only at h ⊢
    rw [if_pos h]
    have ht := read_back _ s [] [] 1 r (Nat.le_refl _) hr
    have ht : textL r.1 r.2 = s.data.toList := by rw [ht]; rfl
    have hl : ¬ 4096 < (textL r.1 r.2).length := by rw [ht, ← Lib.size_eq]; exact hs
    refine ⟨?_, ?_, h⟩
    · unfold txtE; rw [if_neg (by rw [h]; simp), if_neg hl]
    · unfold txtV
      rw [if_neg (by rw [h]; simp), if_neg hl, ht]
theorem par_bad {s : ByteArray} (h : parE s ≠ 0) : parR s = ([], []) := by
  unfold parE at h
  unfold parR
  split
  · rfl
  · rename_i hs
    rw [if_neg hs] at h
    split
    · rfl
    · rename_i r hr
      rw [hr] at h
      exact if_neg h
end Go.Proofs.YtclfjdnemafmeaaGreatDoor
end
