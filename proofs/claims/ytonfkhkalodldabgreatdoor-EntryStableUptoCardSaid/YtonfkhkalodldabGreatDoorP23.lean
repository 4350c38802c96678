/-
  Texts of the schema layer and of those beneath it, joined: EntSm8, EntEx0. Conditions stand at each contract.
-/
import Derived.Test.YtonfkhkalodldabGreatDoorP15
import Derived.Test.YtonfkhkalodldabGreatDoorP18
import Derived.Test.YtonfkhkalodldabGreatDoorP19
import Derived.Test.YtonfkhkalodldabGreatDoorP20
import Derived.Test.YtonfkhkalodldabGreatDoorP22
set_option linter.unusedVariables false
set_option linter.unusedSimpArgs false
set_option linter.unnecessarySimpa false

section
/-
  Contracts of the entry laws' small and ann; the values of the examples. No condition.
-/
set_option maxRecDepth 100000
set_option maxRecDepth 100000
namespace Go.Proofs.YtonfkhkalodldabGreatDoor
open Go.RowKit Go.PlainAid
def exT8 : List Ty := [⟨⟨#[99, 108, 97, 115, 115]⟩, 1, false⟩, ⟨⟨#[99, 110]⟩, 1, false⟩, ⟨⟨#[115, 110]⟩, 1, false⟩, ⟨⟨#[110, 117, 109]⟩, 3, false⟩]
def exC8 : List Cl := [⟨⟨#[112, 101, 114, 115, 111, 110]⟩, ⟨#[]⟩, [⟨#[99, 108, 97, 115, 115]⟩, ⟨#[99, 110]⟩], [⟨#[115, 110]⟩, ⟨#[110, 117, 109]⟩]⟩]
/-- the blocks of the schema of the examples -/
structure Sm4 (W : World) (b : Nat) : Prop where
  t : Kb W b (.cells #[.string ⟨#[99, 108, 97, 115, 115]⟩, .int .i64 1, .bool false, .string ⟨#[99, 110]⟩, .int .i64 1, .bool false, .string ⟨#[115, 110]⟩, .int .i64 1, .bool false, .string ⟨#[110, 117, 109]⟩, .int .i64 3, .bool false] 104)
  s1 : Kb W (b + 1) (.cells #[.string ⟨#[99, 108, 97, 115, 115]⟩, .string ⟨#[99, 110]⟩] 9)
  s2 : Kb W (b + 1 + 1) (.cells #[.string ⟨#[115, 110]⟩, .string ⟨#[110, 117, 109]⟩] 9)
  c : Kb W (b + 1 + 1 + 1) (.cells #[.string ⟨#[112, 101, 114, 115, 111, 110]⟩, .string ⟨#[]⟩, .slice (some ⟨b + 1, 0, none⟩) 2 2, .slice (some ⟨b + 1 + 1, 0, none⟩) 2 2] 106)
theorem sm4_types {W : World} {b : Nat} (h : Sm4 W b) : TysAt W (some ⟨b, 0, none⟩) 4 4 exT8 :=
  ⟨rfl, Nat.le_refl _, by unfold maxLen; omega, fun _ => ⟨b, 0, rfl, h.t.big, fun j hj => by
    match j, hj with
    | 0, _ => exact ⟨h.t.cell rfl, h.t.cell rfl, h.t.cell rfl⟩
    | 1, _ => exact ⟨h.t.cell rfl, h.t.cell rfl, h.t.cell rfl⟩
    | 2, _ => exact ⟨h.t.cell rfl, h.t.cell rfl, h.t.cell rfl⟩
    | 3, _ => exact ⟨h.t.cell rfl, h.t.cell rfl, h.t.cell rfl⟩⟩⟩
theorem sm4_classes {W : World} {b : Nat} (h : Sm4 W b) : ClsAt W (some ⟨b + 1 + 1 + 1, 0, none⟩) 1 1 exC8 :=
  ⟨rfl, Nat.le_refl _, by unfold maxLen; omega, fun _ => ⟨b + 1 + 1 + 1, 0, rfl, h.c.big, fun j hj => by
    match j, hj with
    | 0, _ => exact ⟨h.c.cell rfl, h.c.cell rfl, ⟨_, _, _, h.c.cell rfl, strs_kb (l := [⟨#[99, 108, 97, 115, 115]⟩, ⟨#[99, 110]⟩]) h.s1 rfl (by unfold maxLen; omega)⟩, _, _, _, h.c.cell rfl, strs_kb (l := [⟨#[115, 110]⟩, ⟨#[110, 117, 109]⟩]) h.s2 rfl (by unfold maxLen; omega)⟩⟩⟩
theorem sm4_sch {W : World} {b : Nat} (h : Sm4 W b) : SchV W (.agg #[.slice (some ⟨b, 0, none⟩) 4 4, .slice (some ⟨b + 1 + 1 + 1, 0, none⟩) 1 1]) exT8 exC8 :=
  ⟨_, _, _, _, _, _, rfl, sm4_types h, sm4_classes h, smT_dec (by decide +kernel), smC_dec (by decide +kernel)⟩
theorem tower4 (w : World) (o0 o1 o2 o3 o4 : Obj) : Kb (((((w.alloc o0).alloc o1).alloc o2).alloc o3).alloc o4) (w.heap.size + 1) o1 ∧ Kb (((((w.alloc o0).alloc o1).alloc o2).alloc o3).alloc o4) (w.heap.size + 1 + 1) o2 ∧
    Kb (((((w.alloc o0).alloc o1).alloc o2).alloc o3).alloc o4) (w.heap.size + 1 + 1 + 1) o3 ∧ Kb (((((w.alloc o0).alloc o1).alloc o2).alloc o3).alloc o4) (w.heap.size + 1 + 1 + 1 + 1) o4 ∧ Below w.heap.size w (((((w.alloc o0).alloc o1).alloc o2).alloc o3).alloc o4) := by
  have s : ∀ (W : World) (o : Obj), (W.alloc o).heap.size = W.heap.size + 1 := fun W o => by simp
  have k1 := kb_at (W := w.alloc o0) o1 (s _ _)
  have k2 := kb_at (W := (w.alloc o0).alloc o1) o2 (by rw [s, s])
  have k3 := kb_at (W := ((w.alloc o0).alloc o1).alloc o2) o3 (by rw [s, s, s])
  have k4 := kb_at (W := (((w.alloc o0).alloc o1).alloc o2).alloc o3) o4 (by rw [s, s, s, s])
  refine ⟨((k1.step (below_al _ _)).step (below_al _ _)).step (below_al _ _), (k2.step (below_al _ _)).step (below_al _ _), k3.step (below_al _ _), k4, ?_⟩
  exact (((((Below.refl w.heap.size w).alloc (Nat.le_refl _) o0).alloc (by simp only [s]; omega) o1).alloc (by simp only [s]; omega) o2).alloc (by simp only [s]; omega) o3).alloc (by simp only [s]; omega) o4
set_option maxHeartbeats 4000000 in
theorem small_e (w : World) : Calls Tryz.prog 22 #[] w fun e w' => ∃ to tn tc co cn cc, e = .returned (.agg #[.slice to tn tc, .slice co cn cc]) ∧ SchV w' (.agg #[.slice to tn tc, .slice co cn cc]) exT8 exC8 ∧ Below w.heap.size w w' := by
  go_enter Tryz.func22, Tryz.ntmps22
  go_wp2_with fail
  refine bodyPost_ret (v := .agg #[.slice (some ⟨w.heap.size + 1, 0, none⟩) 4 4, .slice (some ⟨w.heap.size + 1 + 1 + 1 + 1, 0, none⟩) 1 1]) (by simp only [results, Tryz.results22]; go_simp) rfl ?_
  have ht := tower4 w (.cells #[.slice (some ⟨w.heap.size + 1, 0, none⟩) 4 4, .slice (some ⟨w.heap.size + 1 + 1 + 1 + 1, 0, none⟩) 1 1] 25) (.cells #[.string ⟨#[99, 108, 97, 115, 115]⟩, .int .i64 1, .bool false, .string ⟨#[99, 110]⟩, .int .i64 1, .bool false, .string ⟨#[115, 110]⟩, .int .i64 1, .bool false, .string ⟨#[110, 117, 109]⟩, .int .i64 3, .bool false] 104) (.cells #[.string ⟨#[99, 108, 97, 115, 115]⟩, .string ⟨#[99, 110]⟩] 9) (.cells #[.string ⟨#[115, 110]⟩, .string ⟨#[110, 117, 109]⟩] 9) (.cells #[.string ⟨#[112, 101, 114, 115, 111, 110]⟩, .string ⟨#[]⟩, .slice (some ⟨w.heap.size + 1 + 1, 0, none⟩) 2 2, .slice (some ⟨w.heap.size + 1 + 1 + 1, 0, none⟩) 2 2] 106)
  exact ⟨_, _, _, _, _, _, rfl, sm4_sch (b := w.heap.size + 1) ⟨ht.1, ht.2.1, ht.2.2.1, ht.2.2.2.1⟩, ht.2.2.2.2⟩
theorem ann_e (ao : Option Addr) (n cap : Nat) (w : World) : Calls Tryz.prog 19 #[.slice ao n cap] w fun e w' => e = .returned (.agg #[.string ⟨#[99, 110, 61, 97, 110, 110]⟩, .slice ao n cap]) ∧ Below w.heap.size w w' := by
  have hb := below_al w (.cells #[.string ⟨#[99, 110, 61, 97, 110, 110]⟩, .slice ao n cap] 28)
  go_enter Tryz.func19, Tryz.ntmps19
  go_wp2_with fail
  refine bodyPost_ret (v := .agg #[.string ⟨#[99, 110, 61, 97, 110, 110]⟩, .slice ao n cap]) (by simp only [results, Tryz.results19]; go_simp) rfl ?_
  exact ⟨rfl, hb⟩
theorem e8_chk : chkS exT8 exC8 = 0 := by decide +kernel
theorem e8_st : soundT exT8 exC8 = exT8 := if_pos e8_chk
theorem e8_sc : soundC exT8 exC8 = exC8 := if_pos e8_chk
theorem e8_c1 : enC ⟨#[99, 110, 61, 97, 110, 110]⟩ [] = 0 := by decide +kernel
theorem e8_c2 : enC ⟨#[]⟩ [] = 5 := by decide +kernel
theorem e8_t : txV ⟨#[99, 110, 61, 97, 110, 110]⟩ [(⟨#[115, 110]⟩, [⟨#[97, 32, 98]⟩])] = ⟨#[101, 110, 116, 114, 121, 32, 99, 110, 37, 51, 68, 97, 110, 110, 10, 115, 110, 32, 97, 37, 50, 48, 98, 10]⟩ := by decide +kernel
theorem e8_te : enC ⟨#[99, 110, 61, 97, 110, 110]⟩ [(⟨#[115, 110]⟩, [⟨#[97, 32, 98]⟩])] = 0 := by decide +kernel
theorem e8_d : enD ⟨#[99, 110, 61, 97, 110, 110]⟩ [(⟨#[110, 117, 109]⟩, [⟨#[49]⟩, ⟨#[50]⟩])] ⟨#[99, 110, 61, 97, 110, 110]⟩ [(⟨#[110, 117, 109]⟩, [⟨#[50]⟩, ⟨#[51]⟩])] = [⟨2, ⟨#[110, 117, 109]⟩, [⟨#[49]⟩]⟩, ⟨1, ⟨#[110, 117, 109]⟩, [⟨#[51]⟩]⟩] := by decide +kernel
theorem e8_ne : enE exT8 exC8 ⟨#[67, 78, 61, 65, 110, 110]⟩ [(⟨#[67, 108, 97, 115, 115]⟩, [⟨#[112, 101, 114, 115, 111, 110]⟩]), (⟨#[99, 110]⟩, [⟨#[65, 110, 110]⟩]), (⟨#[110, 117, 109]⟩, [⟨#[55]⟩])] = 0 := by decide +kernel
theorem e8_nn : enN exT8 exC8 ⟨#[67, 78, 61, 65, 110, 110]⟩ [(⟨#[67, 108, 97, 115, 115]⟩, [⟨#[112, 101, 114, 115, 111, 110]⟩]), (⟨#[99, 110]⟩, [⟨#[65, 110, 110]⟩]), (⟨#[110, 117, 109]⟩, [⟨#[55]⟩])] = ⟨#[99, 110, 61, 97, 110, 110]⟩ := by decide +kernel
theorem e8_nl : enL exT8 exC8 ⟨#[67, 78, 61, 65, 110, 110]⟩ [(⟨#[67, 108, 97, 115, 115]⟩, [⟨#[112, 101, 114, 115, 111, 110]⟩]), (⟨#[99, 110]⟩, [⟨#[65, 110, 110]⟩]), (⟨#[110, 117, 109]⟩, [⟨#[55]⟩])] = [(⟨#[99, 108, 97, 115, 115]⟩, [⟨#[112, 101, 114, 115, 111, 110]⟩]), (⟨#[99, 110]⟩, [⟨#[97, 110, 110]⟩]), (⟨#[110, 117, 109]⟩, [⟨#[55]⟩])] := by decide +kernel
theorem e8_ae : apE exT8 exC8 ⟨#[99, 110, 61, 97, 110, 110]⟩ [(⟨#[99, 108, 97, 115, 115]⟩, [⟨#[112, 101, 114, 115, 111, 110]⟩]), (⟨#[99, 110]⟩, [⟨#[97, 110, 110]⟩]), (⟨#[110, 117, 109]⟩, [⟨#[55]⟩])] [⟨3, ⟨#[99, 110]⟩, [⟨#[66, 111, 98]⟩]⟩] = 0 := by decide +kernel
theorem e8_an : apN exT8 exC8 ⟨#[99, 110, 61, 97, 110, 110]⟩ [(⟨#[99, 108, 97, 115, 115]⟩, [⟨#[112, 101, 114, 115, 111, 110]⟩]), (⟨#[99, 110]⟩, [⟨#[97, 110, 110]⟩]), (⟨#[110, 117, 109]⟩, [⟨#[55]⟩])] [⟨3, ⟨#[99, 110]⟩, [⟨#[66, 111, 98]⟩]⟩] = ⟨#[99, 110, 61, 97, 110, 110]⟩ := by decide +kernel
theorem e8_al : apL exT8 exC8 ⟨#[99, 110, 61, 97, 110, 110]⟩ [(⟨#[99, 108, 97, 115, 115]⟩, [⟨#[112, 101, 114, 115, 111, 110]⟩]), (⟨#[99, 110]⟩, [⟨#[97, 110, 110]⟩]), (⟨#[110, 117, 109]⟩, [⟨#[55]⟩])] [⟨3, ⟨#[99, 110]⟩, [⟨#[66, 111, 98]⟩]⟩] = [(⟨#[99, 108, 97, 115, 115]⟩, [⟨#[112, 101, 114, 115, 111, 110]⟩]), (⟨#[99, 110]⟩, [⟨#[98, 111, 98]⟩]), (⟨#[110, 117, 109]⟩, [⟨#[55]⟩])] := by decide +kernel
end Go.Proofs.YtonfkhkalodldabGreatDoor
end

section
/-
  Attributes and modifications that were just laid; a slice of modifications of the call's own as modifications. No condition.
-/
set_option maxRecDepth 100000
set_option maxRecDepth 100000
namespace Go.Proofs.YtonfkhkalodldabGreatDoor
open Go.RowKit Go.PlainAid
theorem mcells_at {T : List Mv} {i : Nat} (hi : i < T.length) : (mcells T)[i * 3]? = some (.int .i64 (T.getD i default).md.op) ∧ (mcells T)[i * 3 + 1]? = some (.string (T.getD i default).md.name) ∧ (mcells T)[i * 3 + 2]? = some (T.getD i default).hd := by
  induction T generalizing i with
  | nil => exact absurd hi (Nat.not_lt_zero _)
  | cons t T ih =>
    cases i with
    | zero => exact ⟨rfl, rfl, rfl⟩
    | succ i =>
      have := ih (i := i) (by simpa using hi)
      rw [show (i + 1) * 3 = i * 3 + 1 + 1 + 1 by omega]
      exact this
theorem mmds_at {T : List Mv} {i : Nat} (hi : i < T.length) : mdD (mmds T) i = (T.getD i default).md := by
  unfold mdD mmds
  rw [List.getD_eq_getElem?_getD, List.getElem?_map, List.getD_eq_getElem?_getD, List.getElem?_eq_getElem hi]; rfl
/-- modifications in a slice of the call's own are modifications in memory -/
theorem DvI.mds {w W : World} {v : Value} {T : List Mv} (h : DvI w v T W) : ∃ ao cap, v = .slice ao T.length cap ∧ MdsAt W ao T.length cap (mmds T) := by
  have h0 := h.row
  have hl : (mmds T).length = T.length := by unfold mmds; rw [List.length_map]
  rcases h0.2 with ⟨e, hn⟩ | ⟨g, cap, cur, e, hb, hg, hc, hm, hcs, ht⟩
  · refine ⟨none, 0, by rw [e, hn], hl, by omega, by unfold maxLen; omega, fun k => by omega⟩
  · refine ⟨_, cap, e, hl, hc, hm, fun h1 => ⟨g, 0, rfl, ?_, fun j hj => ?_⟩⟩
    · rcases Nat.lt_or_ge g W.heap.size with h' | h'
      · exact h'
      · simp [Array.getElem?_eq_none h'] at hg
    · rw [e] at h0
      obtain ⟨c0, c1, c2⟩ := mcells_at hj
      have x0 := h0.cells (g := g) rfl _ _ c0
      have x1 := h0.cells (g := g) rfl _ _ c1
      have x2 := h0.cells (g := g) rfl _ _ c2
      rw [Go.WideShapes.add_plain] at x0 x1 x2
      have hmem : T.getD j default ∈ T := by
        rw [List.getD_eq_getElem?_getD, List.getElem?_eq_getElem hj]; exact List.getElem_mem _
      obtain ⟨vo, vc, ev, hs⟩ := strs_own (h.own _ hmem).1 rfl
      rw [mmds_at hj]
      refine ⟨x0, by rw [← Nat.add_assoc] at x1; exact x1, vo, _, vc, ?_, hs⟩
      rw [← ev]
      rw [← Nat.add_assoc] at x2; exact x2
theorem sizes (W : World) (o : Obj) : (W.alloc o).heap.size = W.heap.size + 1 := by simp
/-- one attribute that was just laid -/
theorem ats1 (w : World) (nm : ByteArray) (vs : List ByteArray) (hl : vs.length ≤ 100) :
    AttrsAt ((w.alloc (.cells (scells vs).toArray 9)).alloc (.cells #[.string nm, .slice (some ⟨w.heap.size, 0, none⟩) vs.length vs.length] 41)) (some ⟨w.heap.size + 1, 0, none⟩) 1 1 [(nm, vs)] := by
  have k1 := (kbl_new w (.cells (scells vs).toArray 9)).step (below_al _ (.cells #[.string nm, .slice (some ⟨w.heap.size, 0, none⟩) vs.length vs.length] 41))
  have k2 := kb_at (W := w.alloc (.cells (scells vs).toArray 9)) (.cells #[.string nm, .slice (some ⟨w.heap.size, 0, none⟩) vs.length vs.length] 41) (sizes _ _)
  refine ts_ats (T := [(nm, .slice (some ⟨w.heap.size, 0, none⟩) vs.length vs.length, vs)]) (ts_kb k2 (by show 1 ≤ maxLen; unfold maxLen; omega)) fun t ht => ?_
  rw [List.mem_singleton.1 ht]
  exact ⟨_, _, _, rfl, strs_kb k1 rfl (by unfold maxLen; omega)⟩
/-- three attributes of one value that were just laid -/
theorem ats3 (w : World) (n1 n2 n3 v1 v2 v3 : ByteArray) :
    AttrsAt ((((w.alloc (.cells #[.string v1] 9)).alloc (.cells #[.string v2] 9)).alloc (.cells #[.string v3] 9)).alloc
      (.cells #[.string n1, .slice (some ⟨w.heap.size, 0, none⟩) 1 1, .string n2, .slice (some ⟨w.heap.size + 1, 0, none⟩) 1 1, .string n3, .slice (some ⟨w.heap.size + 1 + 1, 0, none⟩) 1 1] 41)) (some ⟨w.heap.size + 1 + 1 + 1, 0, none⟩) 3 3 [(n1, [v1]), (n2, [v2]), (n3, [v3])] := by
  have k1 := (((kbl_new w (.cells #[.string v1] 9)).step (below_al _ (.cells #[.string v2] 9))).step (below_al _ (.cells #[.string v3] 9))).step (below_al _ (.cells #[.string n1, .slice (some ⟨w.heap.size, 0, none⟩) 1 1, .string n2, .slice (some ⟨w.heap.size + 1, 0, none⟩) 1 1, .string n3, .slice (some ⟨w.heap.size + 1 + 1, 0, none⟩) 1 1] 41))
  have k2 := ((kb_at (W := w.alloc (.cells #[.string v1] 9)) (.cells #[.string v2] 9) (sizes _ _)).step (below_al _ (.cells #[.string v3] 9))).step (below_al _ (.cells #[.string n1, .slice (some ⟨w.heap.size, 0, none⟩) 1 1, .string n2, .slice (some ⟨w.heap.size + 1, 0, none⟩) 1 1, .string n3, .slice (some ⟨w.heap.size + 1 + 1, 0, none⟩) 1 1] 41))
  have k3 := (kb_at (W := (w.alloc (.cells #[.string v1] 9)).alloc (.cells #[.string v2] 9)) (.cells #[.string v3] 9) (by rw [sizes, sizes])).step (below_al _ (.cells #[.string n1, .slice (some ⟨w.heap.size, 0, none⟩) 1 1, .string n2, .slice (some ⟨w.heap.size + 1, 0, none⟩) 1 1, .string n3, .slice (some ⟨w.heap.size + 1 + 1, 0, none⟩) 1 1] 41))
  have k4 := kb_at (W := ((w.alloc (.cells #[.string v1] 9)).alloc (.cells #[.string v2] 9)).alloc (.cells #[.string v3] 9)) (.cells #[.string n1, .slice (some ⟨w.heap.size, 0, none⟩) 1 1, .string n2, .slice (some ⟨w.heap.size + 1, 0, none⟩) 1 1, .string n3, .slice (some ⟨w.heap.size + 1 + 1, 0, none⟩) 1 1] 41) (by rw [sizes, sizes, sizes])
  refine ts_ats (T := [(n1, .slice (some ⟨w.heap.size, 0, none⟩) 1 1, [v1]), (n2, .slice (some ⟨w.heap.size + 1, 0, none⟩) 1 1, [v2]), (n3, .slice (some ⟨w.heap.size + 1 + 1, 0, none⟩) 1 1, [v3])]) (ts_kb k4 (by show 3 ≤ maxLen; unfold maxLen; omega)) fun t ht => ?_
  simp only [List.mem_cons, List.not_mem_nil, or_false] at ht
  rcases ht with rfl | rfl | rfl
  · exact ⟨_, _, _, rfl, strs_kb k1 rfl (by unfold maxLen; omega)⟩
  · exact ⟨_, _, _, rfl, strs_kb k2 rfl (by unfold maxLen; omega)⟩
  · exact ⟨_, _, _, rfl, strs_kb k3 rfl (by unfold maxLen; omega)⟩
/-- two modifications of one value that were just laid -/
theorem mds2 (w : World) (o1 o2 : Int) (n1 n2 v1 v2 : ByteArray) :
    MdsAt (((w.alloc (.cells #[.string v1] 9)).alloc (.cells #[.string v2] 9)).alloc (.cells #[.int .i64 o1, .string n1, .slice (some ⟨w.heap.size, 0, none⟩) 1 1, .int .i64 o2, .string n2, .slice (some ⟨w.heap.size + 1, 0, none⟩) 1 1] 57)) (some ⟨w.heap.size + 1 + 1, 0, none⟩) 2 2 [⟨o1, n1, [v1]⟩, ⟨o2, n2, [v2]⟩] := by
  have k1 := ((kbl_new w (.cells #[.string v1] 9)).step (below_al _ (.cells #[.string v2] 9))).step (below_al _ (.cells #[.int .i64 o1, .string n1, .slice (some ⟨w.heap.size, 0, none⟩) 1 1, .int .i64 o2, .string n2, .slice (some ⟨w.heap.size + 1, 0, none⟩) 1 1] 57))
  have k2 := (kb_at (W := w.alloc (.cells #[.string v1] 9)) (.cells #[.string v2] 9) (sizes _ _)).step (below_al _ (.cells #[.int .i64 o1, .string n1, .slice (some ⟨w.heap.size, 0, none⟩) 1 1, .int .i64 o2, .string n2, .slice (some ⟨w.heap.size + 1, 0, none⟩) 1 1] 57))
  have k3 := kb_at (W := (w.alloc (.cells #[.string v1] 9)).alloc (.cells #[.string v2] 9)) (.cells #[.int .i64 o1, .string n1, .slice (some ⟨w.heap.size, 0, none⟩) 1 1, .int .i64 o2, .string n2, .slice (some ⟨w.heap.size + 1, 0, none⟩) 1 1] 57) (by rw [sizes, sizes])
  refine ⟨rfl, Nat.le_refl _, by unfold maxLen; omega, fun _ => ⟨_, 0, rfl, k3.big, fun j hj => ?_⟩⟩
  match j, hj with
  | 0, _ => exact ⟨k3.cell rfl, k3.cell rfl, _, _, _, k3.cell rfl, strs_kb (l := [v1]) k1 rfl (by unfold maxLen; omega)⟩
  | 1, _ => exact ⟨k3.cell rfl, k3.cell rfl, _, _, _, k3.cell rfl, strs_kb (l := [v2]) k2 rfl (by unfold maxLen; omega)⟩
/-- one modification in blocks -/
theorem mds1 {W : World} {b1 b2 : Nat} {o : Int} {n v : ByteArray} (k1 : Kb W b1 (.cells #[.string v] 9)) (k2 : Kb W b2 (.cells #[.int .i64 o, .string n, .slice (some ⟨b1, 0, none⟩) 1 1] 57)) : MdsAt W (some ⟨b2, 0, none⟩) 1 1 [⟨o, n, [v]⟩] := by
  refine ⟨rfl, Nat.le_refl _, by unfold maxLen; omega, fun _ => ⟨_, 0, rfl, k2.big, fun j hj => ?_⟩⟩
  match j, hj with
  | 0, _ => exact ⟨k2.cell rfl, k2.cell rfl, _, _, _, k2.cell rfl, strs_kb (l := [v]) k1 rfl (by unfold maxLen; omega)⟩
theorem fewV_dec {l : List At} (h : l.all (fun a => decide (a.2.length ≤ 1000)) = true) : FewV l := fun a ha => by
  have := of_decide_eq_true (List.all_eq_true.1 h a ha); omega
end Go.Proofs.YtonfkhkalodldabGreatDoor
end
