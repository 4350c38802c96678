/-
  Texts of the schema layer and of those beneath it, joined: SchAlv, SchLaw, SchChR, SchTyR, SchLnR, SchLow, SchLkR, SchMuR, SchMaR, SchLkL, SchSub, SchPc, SchTwR. Conditions stand at each contract.
-/
import Derived.Deep.DeepHandedRow
import Derived.Lay
import Derived.Shelf.Vars
import Derived.Stop.LaidErr
import Derived.SizedLaws
import Derived.Deep.Onto
import Derived.BigQuiet
import Derived.Test.YtmmdaegdkikkpaaGreatDoorCards
import Derived.Test.YtmmdaegdkikkpaaGreatDoorTie
import Derived.Test.YtmmdaegdkikkpaaGreatDoorP01
import Derived.Test.YtmmdaegdkikkpaaGreatDoorP02
import Derived.Test.YtmmdaegdkikkpaaGreatDoorP03
import Derived.Test.YtmmdaegdkikkpaaGreatDoorP06
import Derived.Test.YtmmdaegdkikkpaaGreatDoorP08
import Derived.Test.YtmmdaegdkikkpaaGreatDoorP11
import Derived.Test.YtmmdaegdkikkpaaGreatDoorP12
import Derived.Test.YtmmdaegdkikkpaaGreatDoorP13
import Derived.Test.YtmmdaegdkikkpaaGreatDoorP14
import Derived.Test.YtmmdaegdkikkpaaGreatDoorP15
import Derived.Test.YtmmdaegdkikkpaaGreatDoorP16
import Derived.Test.YtmmdaegdkikkpaaGreatDoorP17
set_option linter.unusedVariables false
set_option linter.unusedSimpArgs false
set_option linter.unnecessarySimpa false

section
/-
  Contract of the laws' alive: it returns true. Condition: what the card says of the program's tables.
-/
set_option maxRecDepth 100000
namespace Go.Proofs.YtmmdaegdkikkpaaGreatDoor
open Go.RowKit Go.PlainAid
theorem ex_chk : chkS exT exC = 0 := by decide +kernel
theorem ex_st : soundT exT exC = exT := if_pos ex_chk
theorem ex_sc : soundC exT exC = exC := if_pos ex_chk
theorem ex_ty : tyOf exT ⟨#[65, 71, 69]⟩ = some ⟨⟨#[97, 103, 101]⟩, 3, true⟩ := by kernel_rfl
theorem ex_n0 : nrmV exT ⟨#[99, 110]⟩ ⟨#[65, 110, 110, 32, 32, 76, 69, 69]⟩ = ⟨#[97, 110, 110, 32, 108, 101, 101]⟩ := by decide +kernel
theorem ex_e0 : nrmE exT ⟨#[99, 110]⟩ ⟨#[65, 110, 110, 32, 32, 76, 69, 69]⟩ = 0 := by decide +kernel
theorem ex_n1 : nrmV exT ⟨#[97, 103, 101]⟩ ⟨#[48, 48, 55]⟩ = ⟨#[55]⟩ := by decide +kernel
theorem ex_e1 : nrmE exT ⟨#[97, 103, 101]⟩ ⟨#[48, 48, 55]⟩ = 0 := by decide +kernel
theorem ex_n2 : nrmV exT ⟨#[97, 99, 116, 105, 118, 101]⟩ ⟨#[84, 114, 117, 101]⟩ = ⟨#[84, 82, 85, 69]⟩ := by decide +kernel
theorem ex_e2 : nrmE exT ⟨#[97, 99, 116, 105, 118, 101]⟩ ⟨#[84, 114, 117, 101]⟩ = 0 := by decide +kernel
theorem ex_n3 : nrmV exT ⟨#[99, 110]⟩ ⟨#[32, 97]⟩ = ⟨#[]⟩ := by decide +kernel
theorem ex_e3 : nrmE exT ⟨#[99, 110]⟩ ⟨#[32, 97]⟩ = 8 := by decide +kernel
theorem ex_c : cmpV exT ⟨#[97, 103, 101]⟩ ⟨#[57]⟩ ⟨#[49, 48]⟩ = -1 := by decide +kernel
theorem ex_ce : cmpE exT ⟨#[97, 103, 101]⟩ ⟨#[57]⟩ ⟨#[49, 48]⟩ = 0 := by decide +kernel
theorem ex_t : txtV exT exC = ⟨#[116, 121, 112, 101, 32, 99, 108, 97, 115, 115, 32, 116, 101, 120, 116, 10, 116, 121, 112, 101, 32, 99, 110, 32, 116, 101, 120, 116, 10, 116, 121, 112, 101, 32, 97, 103, 101, 32, 105, 110, 116, 32, 115, 105, 110, 103, 108, 101, 10, 116, 121, 112, 101, 32, 97, 99, 116, 105, 118, 101, 32, 98, 111, 111, 108, 10, 99, 108, 97, 115, 115, 32, 112, 101, 114, 115, 111, 110, 32, 45, 32, 99, 110, 32, 97, 103, 101, 10, 99, 108, 97, 115, 115, 32, 115, 116, 97, 102, 102, 32, 112, 101, 114, 115, 111, 110, 32, 45, 32, 97, 99, 116, 105, 118, 101, 10]⟩ := by decide +kernel
theorem ex_te : txtE exT exC = 0 := by decide +kernel
theorem ex_pe : parE ⟨#[116, 121, 112, 101, 32, 97, 103, 101, 32, 105, 110, 116, 10]⟩ = 6 := by decide +kernel
theorem ex_pn : parN ⟨#[116, 121, 112, 101, 32, 97, 103, 101, 32, 105, 110, 116, 10]⟩ = 0 := by decide +kernel
theorem ex_pr : parR ⟨#[116, 121, 112, 101, 32, 97, 103, 101, 32, 105, 110, 116, 10]⟩ = ([], []) := by kernel_rfl
def annL : List At := [(⟨#[99, 108, 97, 115, 115]⟩, [⟨#[112, 101, 114, 115, 111, 110]⟩]), (⟨#[99, 110]⟩, [⟨#[65, 110, 110]⟩])]
def twoL : List At := [(⟨#[97, 103, 101]⟩, [⟨#[55]⟩, ⟨#[56]⟩]), (⟨#[99, 108, 97, 115, 115]⟩, [⟨#[112, 101, 114, 115, 111, 110]⟩]), (⟨#[99, 110]⟩, [⟨#[65, 110, 110]⟩])]
theorem ex_v1 : vldE exT exC annL = 0 := by decide +kernel
theorem ex_v2 : vldE exT exC twoL = 9 := by decide +kernel
theorem ex_l : lineN exC ⟨#[83, 84, 65, 70, 70]⟩ = [⟨#[115, 116, 97, 102, 102]⟩, ⟨#[112, 101, 114, 115, 111, 110]⟩] := by decide +kernel
theorem ex_m : mustS exC ⟨#[115, 116, 97, 102, 102]⟩ = [⟨#[99, 110]⟩] := by decide +kernel
theorem ex_y : mayS exC ⟨#[115, 116, 97, 102, 102]⟩ = [⟨#[97, 99, 116, 105, 118, 101]⟩, ⟨#[97, 103, 101]⟩, ⟨#[99, 110]⟩] := by decide +kernel
theorem small_dec {l : List ByteArray} (h : l.all (fun v => decide (v.size ≤ 1000)) = true) : SmallS l := fun v hv => by
  have := List.all_eq_true.1 h v hv
  have := of_decide_eq_true this
  omega
theorem smallA_dec {l : List At} (h : l.all (fun a => decide (a.1.size ≤ 1000) && a.2.all (fun v => decide (v.size ≤ 1000))) = true) : SmallA l := fun a ha => by
  have := List.all_eq_true.1 h a ha
  rw [Bool.and_eq_true] at this
  exact ⟨by have := of_decide_eq_true this.1; omega, small_dec this.2⟩
theorem few_dec {l : List At} (h : (l.all (fun a => decide (a.1.size ≤ 1000) && a.2.all (fun v => decide (v.size ≤ 1000))) && decide (sumV l ≤ 1000) && decide (l.length ≤ 40)) = true) : Few l := by
  rw [Bool.and_eq_true, Bool.and_eq_true] at h
  exact ⟨smallA_dec h.1.1, by have := of_decide_eq_true h.1.2; omega, by have := of_decide_eq_true h.2; omega⟩
theorem fewE_dec {l : List At} (h : (l.all (fun a => decide (a.1.size ≤ 1000) && a.2.all (fun v => decide (v.size ≤ 1000))) && decide (sumV l ≤ 1000) && decide (l.length ≤ 40)) = true) (h1 : l.all (fun a => decide (a.2.length ≤ 1000)) = true)
    (h2 : (decide ((vals l (lowS classN)).length ≤ 1000) && (vals l (lowS classN)).all (fun v => decide (v.size ≤ 1000))) = true) (h3 : (names l).length ≤ 1000) : FewE l := by
  rw [Bool.and_eq_true] at h2
  exact ⟨few_dec h, fun a ha => by have := of_decide_eq_true (List.all_eq_true.1 h1 a ha); omega, ⟨by have := of_decide_eq_true h2.1; omega, fun v hv => by have := of_decide_eq_true (List.all_eq_true.1 h2.2 v hv); omega⟩, h3⟩
theorem annL_few : FewE annL := fewE_dec (by decide +kernel) (by decide +kernel) (by decide +kernel) (by decide +kernel)
theorem twoL_few : FewE twoL := fewE_dec (by decide +kernel) (by decide +kernel) (by decide +kernel) (by decide +kernel)
/-- what the laws ask of the program's tables -/
structure SOk (w : World) : Prop where
  io : IntOk w
  mo : MaxOk w
  so : SynOk w
theorem SOk.below {w w' : World} (h : SOk w) (hb : Below w.heap.size w w') : SOk w' := ⟨h.io.below hb, h.mo.below hb h.mo.lt, h.so.below hb⟩
/-- alive under way: the schema's box, the schema, the tables -/
structure AV (w W : World) (b : Nat) (ao : Option Addr) (n cap : Nat) (bo : Option Addr) (m dap : Nat) (ts : List Ty) (cs : List Cl) : Prop where
  box : Kb W b (.cells #[.slice ao n cap, .slice bo m dap] 25)
  sch : SchV W (.agg #[.slice ao n cap, .slice bo m dap]) ts cs
  ok : SOk W
  low : Below w.heap.size w W
theorem AV.step {w W V : World} {b : Nat} {ao : Option Addr} {n cap : Nat} {bo : Option Addr} {m dap : Nat} {ts : List Ty} {cs : List Cl} (h : AV w W b ao n cap bo m dap ts cs) (hb : Below W.heap.size W V) : AV w V b ao n cap bo m dap ts cs :=
  ⟨h.box.step hb, h.sch.below hb, h.ok.below hb, h.low.trans (hb.mono h.low.size)⟩
theorem ts_kb {W : World} {b : Nat} {T : List Tr} (h : Kb W b (.cells (tcells T).toArray 58)) (hl : T.length ≤ maxLen) : TsAt W (some ⟨b, 0, none⟩) T.length T.length T :=
  ⟨rfl, Nat.le_refl _, hl, fun _ => ⟨b, 0, rfl, h.big, fun j u hj => by
    rw [Nat.zero_add]
    refine h.cell ?_
    rw [List.getElem?_toArray]; exact hj⟩⟩
/-- an append that a guard lets through -/
theorem app_guarded {ops : Array Oper} {rest : List Oper} {o : Oper} {a : Act} {Q : Exit → Act → World → Prop} (wr : World) (s x : Operand) (vs vx v' : Value) (w' : World) (hw : Region.wanted o (yielded ops a.tmps) = true)
    (ho : o.op = .call { callee := .builtin .append, args := #[s, x], argTypes := #[35, 35] }) (hs : a.eval s = vs) (hx : a.eval x = vx)
    (hrun : (Builtin.append_ #[35, 35] o.type #[vs, vx]).run Tryz.prog wr = .ok v' w') (h : wpList Tryz.prog ops Q rest (a.put o.dst v') w') : wpList Tryz.prog ops Q (o :: rest) a wr := by
  unfold wpList
  rw [if_pos hw]
  left
  unfold Oper.wp execOp
  simp only [ho, resolve, invoke, builtin, Sem.run_bind, Sem.run_pure, Result.andThen_ok, List.map_toArray, List.map_cons, List.map_nil, hs, hx, hrun]
  exact h
set_option maxHeartbeats 16000000 in
theorem alive_s (w : World) (hok : SOk w) : Calls Tryz.prog 14 #[] w fun e w' => e = .returned (.bool true) ∧ Below w.heap.size w w' := by
  have HC0 := Lib.hid (small_s w)
  have HO := Lib.hid hok
  clear hok
  go_enter Tryz.func14, Tryz.ntmps14
  go_wp2_with fail
  refine HC0.out.mono ?_
  rintro e W1 ⟨v, rfl, hs, hb⟩
  obtain ⟨ao, n, cap, bo, m, dap, rfl, g1, g2, g3, g4⟩ := hs
  have HAV : Hid (AV w (W1.alloc (.cells #[.slice ao n cap, .slice bo m dap] 25)) W1.heap.size ao n cap bo m dap exT exC) := Lib.hid ⟨kbl_new W1 _, SchV.below ⟨_, _, _, _, _, _, rfl, g1, g2, g3, g4⟩ (below_al W1 _), (HO.out.below hb).below (below_al W1 _), hb.trans ((below_al W1 _).mono hb.size)⟩
  clear g1 g2 g3 g4 hb HC0
  have HCx := Lib.hid (typeF_s _ exT exC ⟨#[65, 71, 69]⟩ _ HAV.out.sch (by decide))
  rw [ex_st, ex_ty] at HCx
  unfold tyV at HCx
  dsimp only [Option.getD, Option.isSome] at HCx
  have c0 := HAV.out.box.cell (i := 0) rfl
  have c1 := HAV.out.box.cell (i := 1) rfl
  go_wp2_with fail
  refine HCx.out.mono ?_
  rintro e W2 ⟨rfl, hb⟩
  have HAV := Lib.hid (HAV.out.step hb)
  clear hb HCx c0 c1
  have HTB : Hid (Kb (W2.alloc (.cells #[.string ⟨#[97, 103, 101]⟩, .int .i64 3, .bool true] 62)) W2.heap.size (.cells #[.string ⟨#[97, 103, 101]⟩, .int .i64 3, .bool true] 62)) := Lib.hid (kbl_new W2 _)
  have HAV := Lib.hid (HAV.out.step (below_al W2 (.cells #[.string ⟨#[97, 103, 101]⟩, .int .i64 3, .bool true] 62)))
  have HCx := Lib.hid (normalF_s _ exT exC ⟨#[99, 110]⟩ ⟨#[65, 110, 110, 32, 32, 76, 69, 69]⟩ _ HAV.out.sch (by decide) (by decide) HAV.out.ok.io)
  rw [ex_st, ex_n0, ex_e0] at HCx
  have c0 := HAV.out.box.cell (i := 0) rfl
  have c1 := HAV.out.box.cell (i := 1) rfl
  go_wp2_with fail
  refine HCx.out.mono ?_
  rintro e W3 ⟨rfl, hb⟩
  have HAV := Lib.hid (HAV.out.step hb)
  have HTB := Lib.hid (HTB.out.step hb)
  clear hb HCx c0 c1
  have HCx := Lib.hid (normalF_s _ exT exC ⟨#[97, 103, 101]⟩ ⟨#[48, 48, 55]⟩ _ HAV.out.sch (by decide) (by decide) HAV.out.ok.io)
  rw [ex_st, ex_n1, ex_e1] at HCx
  have c0 := HAV.out.box.cell (i := 0) rfl
  have c1 := HAV.out.box.cell (i := 1) rfl
  go_wp2_with fail
  refine HCx.out.mono ?_
  rintro e W4 ⟨rfl, hb⟩
  have HAV := Lib.hid (HAV.out.step hb)
  have HTB := Lib.hid (HTB.out.step hb)
  clear hb HCx c0 c1
  have HCx := Lib.hid (normalF_s _ exT exC ⟨#[97, 99, 116, 105, 118, 101]⟩ ⟨#[84, 114, 117, 101]⟩ _ HAV.out.sch (by decide) (by decide) HAV.out.ok.io)
  rw [ex_st, ex_n2, ex_e2] at HCx
  have c0 := HAV.out.box.cell (i := 0) rfl
  have c1 := HAV.out.box.cell (i := 1) rfl
  go_wp2_with fail
  refine HCx.out.mono ?_
  rintro e W5 ⟨rfl, hb⟩
  have HAV := Lib.hid (HAV.out.step hb)
  have HTB := Lib.hid (HTB.out.step hb)
  clear hb HCx c0 c1
  have HCx := Lib.hid (compareF_s _ exT exC ⟨#[97, 103, 101]⟩ ⟨#[57]⟩ ⟨#[49, 48]⟩ _ HAV.out.sch (by decide) (by decide) (by decide) HAV.out.ok.io)
  rw [ex_st, ex_c, ex_ce] at HCx
  have c0 := HAV.out.box.cell (i := 0) rfl
  have c1 := HAV.out.box.cell (i := 1) rfl
  go_wp2_with fail
  refine HCx.out.mono ?_
  rintro e W6 ⟨rfl, hb⟩
  have HAV := Lib.hid (HAV.out.step hb)
  have HTB := Lib.hid (HTB.out.step hb)
  clear hb HCx c0 c1
  have HCx := Lib.hid (normalF_s _ exT exC ⟨#[99, 110]⟩ ⟨#[32, 97]⟩ _ HAV.out.sch (by decide) (by decide) HAV.out.ok.io)
  rw [ex_st, ex_n3, ex_e3] at HCx
  have c0 := HAV.out.box.cell (i := 0) rfl
  have c1 := HAV.out.box.cell (i := 1) rfl
  go_wp2_with fail
  refine HCx.out.mono ?_
  rintro e W7 ⟨rfl, hb⟩
  have HAV := Lib.hid (HAV.out.step hb)
  have HTB := Lib.hid (HTB.out.step hb)
  clear hb HCx c0 c1
  have t2 := HTB.out.cell (i := 2) rfl
  have HCx := Lib.hid (textF_s _ exT exC _ HAV.out.sch HAV.out.ok.so)
  rw [ex_t, ex_te] at HCx
  have c0 := HAV.out.box.cell (i := 0) rfl
  have c1 := HAV.out.box.cell (i := 1) rfl
  go_wp2_with fail
  refine HCx.out.mono ?_
  rintro e W8 ⟨rfl, hb⟩
  have HAV := Lib.hid (HAV.out.step hb)
  have HTB := Lib.hid (HTB.out.step hb)
  clear t2 HTB
  clear hb HCx c0 c1
  have HCx := Lib.hid (parseF_s ⟨#[116, 121, 112, 101, 32, 97, 103, 101, 32, 105, 110, 116, 10]⟩ _ (by decide) HAV.out.ok.mo HAV.out.ok.mo.lt HAV.out.ok.so)
  have c0 := HAV.out.box.cell (i := 0) rfl
  have c1 := HAV.out.box.cell (i := 1) rfl
  go_wp2_with fail
  refine HCx.out.mono ?_
  rintro e W9 hp
  unfold ParP at hp
  rw [ex_pn, ex_pe, ex_pr] at hp
  obtain ⟨y, rfl, ⟨yo, yn, yc, zo, zn, zc, rfl, hy1, _⟩, hb⟩ := hp
  have hy0 := hy1.1
  simp only [List.length_nil] at hy0
  subst hy0
  have HAV := Lib.hid (HAV.out.step hb)
  clear hb HCx c0 c1 hy1
  obtain ⟨Y0, e0⟩ : ∃ x, W9.alloc (.cells #[.slice yo 0 yc, .slice zo zn zc] 25) = x := ⟨_, rfl⟩
  have z0 : Y0.heap.size = W9.heap.size + 1 := by rw [← e0]; simp
  have b0 : Below W9.heap.size W9 Y0 := by rw [← e0]; exact below_al _ _
  have k0 : Kb Y0 (W9.heap.size) (.cells #[.slice yo 0 yc, .slice zo zn zc] 25) := by rw [← e0]; exact kbl_new _ _
  obtain ⟨Y1, e1⟩ : ∃ x, Y0.alloc (.cells #[.string ⟨#[112, 101, 114, 115, 111, 110]⟩] 9) = x := ⟨_, rfl⟩
  have z1 : Y1.heap.size = W9.heap.size + 1 + 1 := by rw [← e1]; simp [z0]
  have b1 : Below Y0.heap.size Y0 Y1 := by rw [← e1]; exact below_al _ _
  have k1 : Kb Y1 (W9.heap.size + 1) (.cells #[.string ⟨#[112, 101, 114, 115, 111, 110]⟩] 9) := by rw [← e1, ← z0]; exact kbl_new _ _
  obtain ⟨Y2, e2⟩ : ∃ x, Y1.alloc (.cells #[.string ⟨#[65, 110, 110]⟩] 9) = x := ⟨_, rfl⟩
  have z2 : Y2.heap.size = W9.heap.size + 1 + 1 + 1 := by rw [← e2]; simp [z1]
  have b2 : Below Y1.heap.size Y1 Y2 := by rw [← e2]; exact below_al _ _
  have k2 : Kb Y2 (W9.heap.size + 1 + 1) (.cells #[.string ⟨#[65, 110, 110]⟩] 9) := by rw [← e2, ← z1]; exact kbl_new _ _
  obtain ⟨Y3, e3⟩ : ∃ x, Y2.alloc (.cells #[.string ⟨#[99, 108, 97, 115, 115]⟩, .slice (some ⟨W9.heap.size + 1, 0, none⟩) 1 1, .string ⟨#[99, 110]⟩, .slice (some ⟨W9.heap.size + 1 + 1, 0, none⟩) 1 1] 58) = x := ⟨_, rfl⟩
  have z3 : Y3.heap.size = W9.heap.size + 1 + 1 + 1 + 1 := by rw [← e3]; simp [z2]
  have b3 : Below Y2.heap.size Y2 Y3 := by rw [← e3]; exact below_al _ _
  have k3 : Kb Y3 (W9.heap.size + 1 + 1 + 1) (.cells #[.string ⟨#[99, 108, 97, 115, 115]⟩, .slice (some ⟨W9.heap.size + 1, 0, none⟩) 1 1, .string ⟨#[99, 110]⟩, .slice (some ⟨W9.heap.size + 1 + 1, 0, none⟩) 1 1] 58) := by rw [← e3, ← z2]; exact kbl_new _ _
  obtain ⟨Y4, e4⟩ : ∃ x, Y3.alloc (.cells #[.string ⟨#[99, 110, 61, 97, 110, 110]⟩, .slice (some ⟨W9.heap.size + 1 + 1 + 1, 0, none⟩) 2 2] 37) = x := ⟨_, rfl⟩
  have z4 : Y4.heap.size = W9.heap.size + 1 + 1 + 1 + 1 + 1 := by rw [← e4]; simp [z3]
  have b4 : Below Y3.heap.size Y3 Y4 := by rw [← e4]; exact below_al _ _
  have k4 : Kb Y4 (W9.heap.size + 1 + 1 + 1 + 1) (.cells #[.string ⟨#[99, 110, 61, 97, 110, 110]⟩, .slice (some ⟨W9.heap.size + 1 + 1 + 1, 0, none⟩) 2 2] 37) := by rw [← e4, ← z3]; exact kbl_new _ _
  obtain ⟨Y5, e5⟩ : ∃ x, Y4.alloc (.cells #[.string ⟨#[55]⟩, .string ⟨#[56]⟩] 9) = x := ⟨_, rfl⟩
  have z5 : Y5.heap.size = W9.heap.size + 1 + 1 + 1 + 1 + 1 + 1 := by rw [← e5]; simp [z4]
  have b5 : Below Y4.heap.size Y4 Y5 := by rw [← e5]; exact below_al _ _
  have k5 : Kb Y5 (W9.heap.size + 1 + 1 + 1 + 1 + 1) (.cells #[.string ⟨#[55]⟩, .string ⟨#[56]⟩] 9) := by rw [← e5, ← z4]; exact kbl_new _ _
  obtain ⟨Y6, e6⟩ : ∃ x, Y5.alloc (.cells #[.string ⟨#[97, 103, 101]⟩, .slice (some ⟨W9.heap.size + 1 + 1 + 1 + 1 + 1, 0, none⟩) 2 2] 58) = x := ⟨_, rfl⟩
  have z6 : Y6.heap.size = W9.heap.size + 1 + 1 + 1 + 1 + 1 + 1 + 1 := by rw [← e6]; simp [z5]
  have b6 : Below Y5.heap.size Y5 Y6 := by rw [← e6]; exact below_al _ _
  have k6 : Kb Y6 (W9.heap.size + 1 + 1 + 1 + 1 + 1 + 1) (.cells #[.string ⟨#[97, 103, 101]⟩, .slice (some ⟨W9.heap.size + 1 + 1 + 1 + 1 + 1, 0, none⟩) 2 2] 58) := by rw [← e6, ← z5]; exact kbl_new _ _
  have l0 := ((((((k0.step b1).step b2).step b3).step b4).step b5).step b6)
  have l1 := (((((k1.step b2).step b3).step b4).step b5).step b6)
  have l2 := ((((k2.step b3).step b4).step b5).step b6)
  have l3 := (((k3.step b4).step b5).step b6)
  have l4 := ((k4.step b5).step b6)
  have l5 := (k5.step b6)
  have l6 := k6
  have s1 : StrsAt Y6 (some ⟨W9.heap.size + 1, 0, none⟩) 1 1 [⟨#[112, 101, 114, 115, 111, 110]⟩] := strs_kb l1 rfl (by unfold maxLen; omega)
  have s2 : StrsAt Y6 (some ⟨W9.heap.size + 1 + 1, 0, none⟩) 1 1 [⟨#[65, 110, 110]⟩] := strs_kb l2 rfl (by unfold maxLen; omega)
  have s5 : StrsAt Y6 (some ⟨W9.heap.size + 1 + 1 + 1 + 1 + 1, 0, none⟩) 2 2 [⟨#[55]⟩, ⟨#[56]⟩] := strs_kb l5 rfl (by unfold maxLen; omega)
  have t3 : TsAt Y6 (some ⟨W9.heap.size + 1 + 1 + 1, 0, none⟩) 2 2 [(⟨#[99, 108, 97, 115, 115]⟩, .slice (some ⟨W9.heap.size + 1, 0, none⟩) 1 1, [⟨#[112, 101, 114, 115, 111, 110]⟩]), (⟨#[99, 110]⟩, .slice (some ⟨W9.heap.size + 1 + 1, 0, none⟩) 1 1, [⟨#[65, 110, 110]⟩])] := ts_kb (T := [(⟨#[99, 108, 97, 115, 115]⟩, .slice (some ⟨W9.heap.size + 1, 0, none⟩) 1 1, [⟨#[112, 101, 114, 115, 111, 110]⟩]), (⟨#[99, 110]⟩, .slice (some ⟨W9.heap.size + 1 + 1, 0, none⟩) 1 1, [⟨#[65, 110, 110]⟩])]) l3 (by show 2 ≤ maxLen; unfold maxLen; omega)
  have t6 : TsAt Y6 (some ⟨W9.heap.size + 1 + 1 + 1 + 1 + 1 + 1, 0, none⟩) 1 1 [(⟨#[97, 103, 101]⟩, .slice (some ⟨W9.heap.size + 1 + 1 + 1 + 1 + 1, 0, none⟩) 2 2, [⟨#[55]⟩, ⟨#[56]⟩])] := ts_kb (T := [(⟨#[97, 103, 101]⟩, .slice (some ⟨W9.heap.size + 1 + 1 + 1 + 1 + 1, 0, none⟩) 2 2, [⟨#[55]⟩, ⟨#[56]⟩])]) l6 (by show 1 ≤ maxLen; unfold maxLen; omega)
  have o3 : TOk Y6 [(⟨#[99, 108, 97, 115, 115]⟩, .slice (some ⟨W9.heap.size + 1, 0, none⟩) 1 1, [⟨#[112, 101, 114, 115, 111, 110]⟩]), (⟨#[99, 110]⟩, .slice (some ⟨W9.heap.size + 1 + 1, 0, none⟩) 1 1, [⟨#[65, 110, 110]⟩])] := fun t ht => by
    rcases List.mem_cons.1 ht with rfl | ht
    · exact ⟨_, _, _, rfl, s1⟩
    · rw [List.mem_singleton.1 ht]; exact ⟨_, _, _, rfl, s2⟩
  have o6 : TOk Y6 [(⟨#[97, 103, 101]⟩, .slice (some ⟨W9.heap.size + 1 + 1 + 1 + 1 + 1, 0, none⟩) 2 2, [⟨#[55]⟩, ⟨#[56]⟩])] := fun t ht => by rw [List.mem_singleton.1 ht]; exact ⟨_, _, _, rfl, s5⟩
  have hA : AttrsAt Y6 (some ⟨W9.heap.size + 1 + 1 + 1, 0, none⟩) 2 2 annL := ts_ats t3 o3
  obtain ⟨i0, hi, hz0, hz1, hz2⟩ := info_parts info_attr
  obtain ⟨v10, w10, hrun, hown10, hg10⟩ := run_append_arg_grows (P := Tryz.prog) _ 35 35 58 i0 (.agg #[.string ⟨#[]⟩, .slice none 0 0]) 2 40 Tryz.underlying35 hi hz0 hz1 hz2 rfl (by decide) ⟨W9.heap.size + 1 + 1 + 1 + 1 + 1 + 1, 0, none⟩ 1 1 _ (tcells_len _) (ts_news t6) ⟨W9.heap.size + 1 + 1 + 1, 0, none⟩ 2 2 _ (tcells_len _) (ts_news t3) (show 1 < 1 + 2 by decide) (by unfold maxLen; omega) (by omega)
  have hb10 := (Below.refl _ _).grown hg10 (Nat.le_refl _) (fun k hk => by cases hk)
  rw [← tcells_append] at hown10
  obtain ⟨_, qo, qc, rfl, hqt, _⟩ := ts_owns hown10
  have hqa := ts_ats hqt ((o6.app o3).below hb10)
  obtain ⟨Y8, e8⟩ : ∃ x, w10.alloc (.cells #[.string ⟨#[]⟩, .slice qo 3 qc] 37) = x := ⟨_, rfl⟩
  have b8 : Below w10.heap.size w10 Y8 := by rw [← e8]; exact below_al _ _
  have HTW : Hid (Kb Y8 w10.heap.size (.cells #[.string ⟨#[]⟩, .slice qo 3 qc] 37)) := Lib.hid (by rw [← e8]; exact kbl_new _ _)
  have HQ : Hid (AttrsAt Y8 qo 3 qc twoL) := Lib.hid (hqa.below b8)
  have HAN := Lib.hid ((hA.below hb10).below b8)
  have HYB := Lib.hid ((l0.step hb10).step b8)
  have HEA := Lib.hid ((l4.step hb10).step b8)
  have HAV := Lib.hid (((((((((HAV.out.step b0).step b1).step b2).step b3).step b4).step b5).step b6).step hb10).step b8)
  have x41 := l4.cell (i := 1) rfl
  have y80 := HYB.out.cell (i := 0) rfl
  have HCx := Lib.hid (checkF_s _ exT exC _ HAV.out.sch)
  rw [ex_chk] at HCx
  have c0 := HAV.out.box.cell (i := 0) rfl
  have c1 := HAV.out.box.cell (i := 1) rfl
  have HRN := Lib.hid hrun
  clear hrun hown10 hg10 hqt hqa hb10 hi hz0 hz1 hz2 s1 s2 s5 t3 t6 o3 o6 hA l0 l1 l2 l3 l4 l5 l6 k0 k1 k2 k3 k4 k5 k6 b0 b1 b2 b3 b4 b5 b6 b8 z0 z1 z2 z3 z4 z5 z6
  subst e8
  subst e6
  subst e5
  subst e4
  subst e3
  subst e2
  subst e1
  subst e0
  go_wp2_with (at_builtin; go_must (refine app_guarded _ (.tmp 113) (.tmp 115) _ _ _ _ ?_ ?_ ?_ ?_ HRN.out ?_; exact rfl; exact rfl; exact rfl; exact rfl))
  refine HCx.out.mono ?_
  rintro e V0 ⟨rfl, hb⟩
  have HAV := Lib.hid (HAV.out.step hb)
  have HEA := Lib.hid (HEA.out.step hb)
  have HTW := Lib.hid (HTW.out.step hb)
  have HAN := Lib.hid (HAN.out.below hb)
  have HQ := Lib.hid (HQ.out.below hb)
  clear hb HCx c0 c1 x41 y80 HRN HYB
  have u0 := HEA.out.cell (i := 0) rfl
  have u1 := HEA.out.cell (i := 1) rfl
  have HCx := Lib.hid (validF_s _ exT exC ⟨#[99, 110, 61, 97, 110, 110]⟩ (some ⟨W9.heap.size + 1 + 1 + 1, 0, none⟩) 2 2 annL _ HAV.out.sch HAN.out annL_few HAV.out.ok.io)
  rw [ex_st, ex_sc, ex_v1] at HCx
  have c0 := HAV.out.box.cell (i := 0) rfl
  have c1 := HAV.out.box.cell (i := 1) rfl
  go_wp2_with fail
  refine HCx.out.mono ?_
  rintro e V1 ⟨rfl, hb⟩
  have HAV := Lib.hid (HAV.out.step hb)
  have HTW := Lib.hid (HTW.out.step hb)
  have HQ := Lib.hid (HQ.out.below hb)
  clear hb HCx c0 c1
  clear u0 u1 HEA HAN
  have u0 := HTW.out.cell (i := 0) rfl
  have u1 := HTW.out.cell (i := 1) rfl
  have HCx := Lib.hid (validF_s _ exT exC ⟨#[]⟩ qo 3 qc twoL _ HAV.out.sch HQ.out twoL_few HAV.out.ok.io)
  rw [ex_st, ex_sc, ex_v2] at HCx
  have c0 := HAV.out.box.cell (i := 0) rfl
  have c1 := HAV.out.box.cell (i := 1) rfl
  go_wp2_with fail
  refine HCx.out.mono ?_
  rintro e V2 ⟨rfl, hb⟩
  have HAV := Lib.hid (HAV.out.step hb)
  clear hb HCx c0 c1
  clear u0 u1 HTW HQ
  have HCx := Lib.hid (lineageF_s _ exT exC ⟨#[83, 84, 65, 70, 70]⟩ _ HAV.out.sch (by decide))
  rw [ex_sc, ex_l] at HCx
  have c0 := HAV.out.box.cell (i := 0) rfl
  have c1 := HAV.out.box.cell (i := 1) rfl
  go_wp2_with fail
  refine HCx.out.mono ?_
  rintro e V3 ⟨u, rfl, ⟨lo, ln, lc, rfl, hl⟩, hb⟩
  have HAV := Lib.hid (HAV.out.step hb)
  clear hb HCx c0 c1
  have HL := Lib.hid (hl.below (below_al V3 (.cells #[.string ⟨#[115, 116, 97, 102, 102]⟩, .string ⟨#[112, 101, 114, 115, 111, 110]⟩] 9)))
  clear hl
  have HAV := Lib.hid (HAV.out.step (below_al V3 (.cells #[.string ⟨#[115, 116, 97, 102, 102]⟩, .string ⟨#[112, 101, 114, 115, 111, 110]⟩] 9)))
  have HCx := Lib.hid (lists_s lo (some ⟨V3.heap.size, 0, none⟩) ln 2 lc 2 [⟨#[115, 116, 97, 102, 102]⟩, ⟨#[112, 101, 114, 115, 111, 110]⟩] [⟨#[115, 116, 97, 102, 102]⟩, ⟨#[112, 101, 114, 115, 111, 110]⟩] _ HL.out (strs_new V3 [⟨#[115, 116, 97, 102, 102]⟩, ⟨#[112, 101, 114, 115, 111, 110]⟩] (by decide)))
  rw [decide_eq_true rfl] at HCx
  have c0 := HAV.out.box.cell (i := 0) rfl
  have c1 := HAV.out.box.cell (i := 1) rfl
  go_wp2_with fail
  refine HCx.out.mono ?_
  rintro e V4 ⟨rfl, hb⟩
  have HAV := Lib.hid (HAV.out.step hb)
  clear hb HCx c0 c1
  clear HL
  have HCx := Lib.hid (mustF_s _ exT exC ⟨#[115, 116, 97, 102, 102]⟩ _ HAV.out.sch (by decide))
  rw [ex_sc, ex_m] at HCx
  have c0 := HAV.out.box.cell (i := 0) rfl
  have c1 := HAV.out.box.cell (i := 1) rfl
  go_wp2_with fail
  refine HCx.out.mono ?_
  rintro e V5 ⟨u, rfl, ⟨lo, ln, lc, rfl, hl⟩, hb⟩
  have HAV := Lib.hid (HAV.out.step hb)
  clear hb HCx c0 c1
  have HL := Lib.hid (hl.below (below_al V5 (.cells #[.string ⟨#[99, 110]⟩] 9)))
  clear hl
  have HAV := Lib.hid (HAV.out.step (below_al V5 (.cells #[.string ⟨#[99, 110]⟩] 9)))
  have HCx := Lib.hid (lists_s lo (some ⟨V5.heap.size, 0, none⟩) ln 1 lc 1 [⟨#[99, 110]⟩] [⟨#[99, 110]⟩] _ HL.out (strs_new V5 [⟨#[99, 110]⟩] (by decide)))
  rw [decide_eq_true rfl] at HCx
  have c0 := HAV.out.box.cell (i := 0) rfl
  have c1 := HAV.out.box.cell (i := 1) rfl
  go_wp2_with fail
  refine HCx.out.mono ?_
  rintro e V6 ⟨rfl, hb⟩
  have HAV := Lib.hid (HAV.out.step hb)
  clear hb HCx c0 c1
  clear HL
  have HCx := Lib.hid (mayF_s _ exT exC ⟨#[115, 116, 97, 102, 102]⟩ _ HAV.out.sch (by decide))
  rw [ex_sc, ex_y] at HCx
  have c0 := HAV.out.box.cell (i := 0) rfl
  have c1 := HAV.out.box.cell (i := 1) rfl
  go_wp2_with fail
  refine HCx.out.mono ?_
  rintro e V7 ⟨u, rfl, ⟨lo, ln, lc, rfl, hl⟩, hb⟩
  have HAV := Lib.hid (HAV.out.step hb)
  clear hb HCx c0 c1
  have HL := Lib.hid (hl.below (below_al V7 (.cells #[.string ⟨#[97, 99, 116, 105, 118, 101]⟩, .string ⟨#[97, 103, 101]⟩, .string ⟨#[99, 110]⟩] 9)))
  clear hl
  have HAV := Lib.hid (HAV.out.step (below_al V7 (.cells #[.string ⟨#[97, 99, 116, 105, 118, 101]⟩, .string ⟨#[97, 103, 101]⟩, .string ⟨#[99, 110]⟩] 9)))
  have HCx := Lib.hid (lists_s lo (some ⟨V7.heap.size, 0, none⟩) ln 3 lc 3 [⟨#[97, 99, 116, 105, 118, 101]⟩, ⟨#[97, 103, 101]⟩, ⟨#[99, 110]⟩] [⟨#[97, 99, 116, 105, 118, 101]⟩, ⟨#[97, 103, 101]⟩, ⟨#[99, 110]⟩] _ HL.out (strs_new V7 [⟨#[97, 99, 116, 105, 118, 101]⟩, ⟨#[97, 103, 101]⟩, ⟨#[99, 110]⟩] (by decide)))
  rw [decide_eq_true rfl] at HCx
  have c0 := HAV.out.box.cell (i := 0) rfl
  have c1 := HAV.out.box.cell (i := 1) rfl
  go_wp2_with fail
  refine HCx.out.mono ?_
  rintro e V8 ⟨rfl, hb⟩
  have HAV := Lib.hid (HAV.out.step hb)
  clear hb HCx c0 c1
  clear HL
  go_wp2_with fail
  go_ret
  exact ⟨rfl, HAV.out.low⟩
end Go.Proofs.YtmmdaegdkikkpaaGreatDoor
end

section
/-
  What the schema laws share: that the library's variables and the table of words lie as the contracts ask. No condition.
-/
set_option maxRecDepth 100000
set_option maxRecDepth 100000
namespace Go.Proofs.YtmmdaegdkikkpaaGreatDoor
open Go.ChangeShapes Go.WideShapes Go.ChangeAt Go.RowKit
theorem max_ok {W : World} (h : W.ShapedOpen Tryz.prog) : MaxOk W :=
  cell_of_shapedOpen_int (zero := #[.int .i64 0]) (t := 3) h (of_decide_eq_true (by kernel_rfl)) (by kernel_rfl) rfl (by kernel_rfl) (by kernel_rfl) Tryz.underlying3
theorem witness_row {H : Type} {enc : TypeId × Value → H} {C : Checked} {os : Os} {f : FuncId} {fn : Func} {s : OpenSpec} {conds : List PathCond} {apart : Bool} {laid : List (String × DataW Unit)} (modest : Bool) (w0 : World) (args : Array Value) (hos : w0.os = os)
    (hsh : (w0.forCall (fun _ _ => 0) ⟨#[], args, []⟩).Shaped C.prog)
    (hok : Input.okWideB C.prog (w0.forCall (fun _ _ => 0) ⟨#[], args, []⟩) f ⟨#[], args, []⟩ = true)
    (hrow : s.preRow enc C.prog fn conds apart laid (w0.forCall (fun _ _ => 0) ⟨#[], args, []⟩).memory args) :
    ∃ (w : World) (tape : Tape) (i : Input), w.os = os ∧ (w.forCall tape i).Shaped C.prog ∧ i.vars = [] ∧ Input.okWide C.prog (w.forCall tape i) .any w.heap.size f i ∧
      s.preRow enc C.prog fn conds apart laid (w.forCall tape i).memory i.args ∧ ({ modest := modest } : Assume).holds C.prog (lone (Frame.enter C.prog f i.args .normal) [] (w.forCall tape i)) :=
  ⟨w0, fun _ _ => 0, ⟨#[], args, []⟩, hos, hsh, (Input.okWide_of_okWideB (base := 0) hok).1, (Input.okWide_of_okWideB hok).2, hrow, by
    simp only [Assume.holds]
    exact ⟨by simp, by simp, fun _ => Modest.zero, by simp, by simp⟩⟩
theorem star : "*" ++ "errors.errorString" = "*errors.errorString" := by decide
theorem tp_row (u : TypeId) (h : Tryz.prog.typeName? 3 u = some "*errors.errorString") : u = 279 :=
  typeName_ptr_named (nm := "errors.errorString") (by rw [star]; kernel_rfl) (by kernel_rfl) (by decide) u (by rw [star]; exact h)
/-- a table of strings as a row lists it -/
def strData {H : Type} (l : List ByteArray) : DataW H := .agg (l.map fun s => .lit (.string s.data.toList))
theorem cells_of_strs {H : Type} {enc : TypeId × Value → H} {P : Program} {w : World} {base : Nat} {sp : Nat → Bool} {held : Bool} {fuel : Nat} {t e : TypeId} {n : Nat} {cs : List Value} {l : List ByteArray} {p : List MemPlace}
    (ht : P.underlying t = some (.array n e)) (he : P.underlying e = some .string) (hce : P.cellsOf e = 1) (hct : P.cellsOf t = n)
    (h : DataW.trod enc P w base sp held fuel t cs = some (strData l, p)) : l.length = n ∧ ∀ i, i < n → cs[i]? = some (.string (l.getD i ⟨#[]⟩)) := by
  cases fuel with
  | zero => simp [DataW.trod] at h
  | succ fuel =>
    simp only [DataW.trod, ht, hce, hct, Nat.mul_one] at h
    split at h
    · rename_i hl
      obtain ⟨xs, hm, hx⟩ := Option.map_eq_some_iff.1 h
      have hxs : xs.map (·.1) = l.map fun s => (DataW.lit (.string s.data.toList) : DataW H) := by
        have := congrArg Prod.fst hx
        simpa [strData] using this
      have hxl : xs.length = n := by simpa using Lib.mapM_length hm
      have hzl : l.length = n := by
        have := congrArg List.length hxs
        simp at this
        omega
      refine ⟨hzl, fun i hi => ?_⟩
      obtain ⟨b, hb, hf⟩ := Lib.mapM_at hm i i (by simp [hi])
      obtain ⟨s, hc, rfl, _⟩ := DataW.trod_string he hf
      have h1 : cs[i]? = some (.string s) := by
        have := congrArg (·[0]?) hc
        simpa [List.getElem?_take, List.getElem?_drop] using this
      have h2 : (xs.map (·.1))[i]? = some (DataW.lit (.string s.data.toList) : DataW H) := by simp [hb]
      rw [hxs] at h2
      rw [List.getElem?_map, List.getElem?_eq_getElem (by omega)] at h2
      simp only [Option.map_some, Option.some.injEq, DataW.lit.injEq, Lit.string.injEq] at h2
      rw [h1, List.getD_eq_getElem?_getD, List.getElem?_eq_getElem (by omega)]
      simp only [Option.getD_some, Option.some.injEq, Value.string.injEq]
      exact (Lib.mk_data s).symm.trans ((congrArg (fun x : List UInt8 => (⟨x.toArray⟩ : ByteArray)) h2.symm).trans (Lib.mk_data _))
    · cases h
theorem strs_of_head {P : Program} {W : World} {name : String} {l : List ByteArray} {rest : List (String × DataW Unit)} {g : Nat} {t e : TypeId} {n : Nat}
    (hg : P.globalNamed name = some g) (hty : (P.globals[g]?).map (·.type) = some t) (ht : P.underlying t = some (.array n e)) (he : P.underlying e = some .string) (hce : P.cellsOf e = 1) (hct : P.cellsOf t = n)
    (h : laidMet P ((name, strData l) :: rest) W) : ∀ i, i < n → W.cell? ⟨g, i, none⟩ = some (.string (l.getD i ⟨#[]⟩)) := by
  obtain ⟨ps, ⟨g', t', cs, fuel, p, q, hg', ht', hvar, hd, _, _⟩, _⟩ := h
  obtain rfl := Option.some.inj (hg.symm.trans hg')
  obtain rfl := Option.some.inj (hty.symm.trans ht')
  have hc := cells_of_strs ht he hce hct hd
  intro i hi
  have := World.var?_cell hg hvar i
  rw [this, List.getElem?_toArray]
  exact hc.2 i hi
def wordsL : List ByteArray := [⟨#[116, 101, 120, 116]⟩, ⟨#[101, 120, 97, 99, 116]⟩, ⟨#[105, 110, 116]⟩, ⟨#[110, 97, 109, 101]⟩, ⟨#[98, 111, 111, 108]⟩]
theorem sok {W : World} (hL : laidMetH Tryz.prog [("math/bits.deBruijn32tab", Rows.laid_math_bits_deBruijn32tab), ("math/bits.deBruijn64tab", Rows.laid_math_bits_deBruijn64tab), ("internal/strconv.uint64pow10", Rows.laid_internal_strconv_uint64pow10), ("unicode/utf8.acceptRanges", Rows.laid_unicode_utf8_acceptRanges), ("strconv.ErrRange", Rows.laid_strconv_ErrRange), ("strconv.ErrSyntax", Rows.laid_strconv_ErrSyntax), ("identity/schema.syntaxWords", Rows.laid_identity_schema_syntaxWords), ("unicode/utf8.first", Rows.laid_unicode_utf8_first)] W)
    (hsh : W.ShapedOpen Tryz.prog) : SOk W := by
  rw [MakeChecks.laidMetH_plain _ _ _ (by kernel_rfl)] at hL
  refine ⟨⟨?_, ?_⟩, max_ok hsh, ?_⟩
  · exact Lib.tabIs_of_head (g := 6) (by kernel_rfl) (by kernel_rfl) Tryz.underlying284 Tryz.underlying208 (by kernel_rfl) (by kernel_rfl) hL.tail.tail
  · obtain ⟨a, s, h, _⟩ := laid_sentinel hL.tail.tail.tail.tail (g := 3) (by kernel_rfl) (by kernel_rfl) Tryz.underlying81 tp_row Tryz.underlying279 Tryz.underlying281 rfl rfl Tryz.underlying9 (by kernel_rfl) (by kernel_rfl)
    exact ⟨_, _, h⟩
  · have h := strs_of_head (l := wordsL) (g := 0) (by kernel_rfl) (by kernel_rfl) Tryz.underlying139 Tryz.underlying9 (by kernel_rfl) (by kernel_rfl) hL.tail.tail.tail.tail.tail.tail
    intro k hk
    rw [h k hk]
    match k, hk with
    | 0, _ => rfl
    | 1, _ => rfl
    | 2, _ => rfl
    | 3, _ => rfl
    | 4, _ => rfl
end Go.Proofs.YtmmdaegdkikkpaaGreatDoor
end

section
/-
  Contract of the specification's Check. Condition: names of at most 1000000000 bytes.
-/
set_option maxRecDepth 100000
namespace Go.Proofs.YtmmdaegdkikkpaaGreatDoor
open Go.RowKit Go.PlainAid
/-- the boxes of Check: the schema, a type -/
structure KT (w W : World) (ao : Option Addr) (n cap : Nat) (bo : Option Addr) (m dap : Nat) (tb : Nat) (p : ByteArray) (x : Int) (sg : Bool) : Prop where
  fb : FB w W ao n cap bo m dap
  ty : W.heap[tb]? = some (.cells #[.string p, .int .i64 x, .bool sg] 62)
  big : tb < W.heap.size
theorem KT.step {w W V : World} {ao : Option Addr} {n cap : Nat} {bo : Option Addr} {m dap tb : Nat} {p : ByteArray} {x : Int} {sg : Bool} (h : KT w W ao n cap bo m dap tb p x sg) (hb : Below W.heap.size W V) : KT w V ao n cap bo m dap tb p x sg :=
  ⟨h.fb.step hb, (hb.block _ h.big).trans h.ty, Nat.lt_of_lt_of_le h.big hb.size⟩
theorem KT.cells {w W : World} {ao : Option Addr} {n cap : Nat} {bo : Option Addr} {m dap tb : Nat} {p : ByteArray} {x : Int} {sg : Bool} (h : KT w W ao n cap bo m dap tb p x sg) :
    W.cell? ⟨w.heap.size, 0, none⟩ = some (.slice ao n cap) ∧ W.cell? ⟨w.heap.size, 1, none⟩ = some (.slice bo m dap) ∧ W.cell? ⟨tb, 0, none⟩ = some (.string p) ∧ W.cell? ⟨tb, 1, none⟩ = some (.int .i64 x) :=
  ⟨h.fb.cells.1, h.fb.cells.2, heap_cell h.ty rfl, heap_cell h.ty rfl⟩
theorem kt_new {w W : World} {ao : Option Addr} {n cap : Nat} {bo : Option Addr} {m dap : Nat} (h : FB w W ao n cap bo m dap) (p : ByteArray) (x : Int) (sg : Bool) : KT w (W.alloc (.cells #[.string p, .int .i64 x, .bool sg] 62)) ao n cap bo m dap W.heap.size p x sg :=
  ⟨h.step ((Below.refl _ _).alloc (Nat.le_refl _) _), heap_alloc_new W _, by simp⟩
theorem errT_form {ts : List Ty} {j : Nat} {p : ByteArray} {x : Int} {sg : Bool} (h : tyAt ts j = ⟨p, x, sg⟩) : errT ts j = if nameB p = false then 5 else if (tyOf (ts.take j) p).isSome = true then 7 else if x < 1 ∨ 5 < x then 8 else 0 := by unfold errT; rw [h]
set_option maxHeartbeats 8000000 in
theorem rCheck7_s (v : Value) (ts : List Ty) (cs : List Cl) (w : World) (h : SchV w v ts cs) :
    Calls Tryz.prog 60 #[v] w fun e w' => e = .returned (.int .i64 (chkS ts cs)) ∧ Below w.heap.size w w' := by
  obtain ⟨ao, n, cap, bo, m, dap, rfl, hT, hC, hsT, hsC⟩ := h
  have HV := Lib.hid (show SchV w (.agg #[.slice ao n cap, .slice bo m dap]) ts cs from ⟨ao, n, cap, bo, m, dap, rfl, hT, hC, hsT, hsC⟩)
  have htl := hT.1
  have hcl := hC.1
  have htx := hT.2.2.1
  have hcx := hC.2.2.1
  have htn := hT.2.1
  have hcn := hC.2.1
  unfold maxLen at htx hcx
  have HT := Lib.hid hT
  have HsT := Lib.hid hsT
  have HTL := Lib.hid htl
  have HCL := Lib.hid hcl
  clear hT hC hsT hsC htl hcl
  have HK0 := Lib.hid (fb_new w ao n cap bo m dap)
  go_enter Tryz.func60, Tryz.ntmps60
  by_cases L1 : 64 < n
  · have d1 : decide ((64 : Int) < (n : Int)) = true := decide_eq_true (by omega)
    go_wp2_with fail
    go_ret
    exact ⟨by rw [chkS_limit (.inl (by rw [HTL.out]; exact L1))]; rfl, HK0.out.low⟩
  have d1 : decide ((64 : Int) < (n : Int)) = false := decide_eq_false (by omega)
  by_cases L2 : 32 < m
  · have d2 : decide ((32 : Int) < (m : Int)) = true := decide_eq_true (by omega)
    go_wp2_with fail
    go_ret
    exact ⟨by rw [chkS_limit (.inr (by rw [HCL.out]; exact L2))]; rfl, HK0.out.low⟩
  have d2 : decide ((32 : Int) < (m : Int)) = false := decide_eq_false (by omega)
  have HLim := Lib.hid (show ¬ (64 < ts.length ∨ 32 < cs.length) by rw [HTL.out, HCL.out]; omega)
  go_wp2_with fail
  clear d1 d2
  generalize w.alloc (.cells #[.slice ao n cap, .slice bo m dap] 25) = W1 at HK0 ⊢
  go_loopw [3, 4] (fun i s4 wr => ∃ k : Nat, k ≤ n ∧ i = .int .i64 k ∧ Hid (∀ q, q < k → errT ts q = 0) ∧ Hid (FB w wr ao n cap bo m dap)) (fun i _ _ => n - (intOf i).toNat)
  case atStart => exact ⟨0, Nat.zero_le _, rfl, Lib.hid (fun q hq => absurd hq (Nat.not_lt_zero _)), HK0⟩
  case round =>
    obtain ⟨k, hk, rfl, HA, HKj⟩ := hrel
    obtain ⟨c0, c1⟩ := HKj.out.cells
    by_cases hlt : k < n
    · have e1 : decide ((k : Int) < (n : Int)) = true := decide_eq_true (by omega)
      have e2 : (0 : Int) ≤ (k : Int) := by omega
      have e3 : (k : Int) < (n : Int) := by omega
      have e4 : (k : Int) ≤ (cap : Int) := by omega
      obtain ⟨b, off, rfl, hbl, hs⟩ := (HT.out.below HKj.out.low).2.2.2 (by omega)
      obtain ⟨y0, y1, y2⟩ := hs k hlt
      clear hs
      have hps := HsT.out _ (ty_mem ts k (by rw [HTL.out]; exact hlt))
      obtain ⟨T, hT⟩ : ∃ x, tyAt ts k = x := ⟨_, rfl⟩
      rw [hT] at y0 y1 y2 hps
      obtain ⟨p, x, sg⟩ := T
      simp only at y0 y1 y2 hps
      have HE := Lib.hid (errT_form hT)
      clear hT
      obtain ⟨nb, hnb⟩ : ∃ x, nameB p = x := ⟨_, rfl⟩
      have HNb := Lib.hid hnb
      clear hnb
      have HKn := Lib.hid (kt_new HKj.out p x sg)
      have HCt := Lib.hid (fun W (hb : Below w.heap.size w W) => typeAt_s (some ⟨b, off, none⟩) k cap (ts.take k) p W ((HT.out.below hb).cut (by omega)) (fun t ht => HsT.out t (List.mem_of_mem_take ht)) hps)
      obtain ⟨tb, htb⟩ : ∃ x, wr.heap.size = x := ⟨_, rfl⟩
      rw [htb] at HKn
      go_wp2_with fail
      generalize wr.alloc (.cells #[.string p, .int .i64 x, .bool sg] 62) = W2 at HKn ⊢
      clear c0 c1 y0 y1 y2 htb HKj
      obtain ⟨c0, c1, x0, x1⟩ := HKn.out.cells
      refine (rName_s p _ hps).mono ?_
      rintro e w1 ⟨rfl, rfl⟩
      rw [HNb.out]
      cases nb
      · have HF := Lib.hid (show errT ts k = 5 by rw [HE.out, if_pos HNb.out])
        go_wp2_with fail
        go_ret
        exact ⟨by rw [chkS_type HLim.out (by rw [HTL.out]; exact hlt) HA.out (by rw [HF.out]; decide), HF.out]; rfl, HKn.out.fb.low⟩
      · have HE2 := Lib.hid (show errT ts k = if (tyOf (ts.take k) p).isSome = true then 7 else if x < 1 ∨ 5 < x then 8 else 0 by rw [HE.out, if_neg (by rw [HNb.out]; decide)])
        clear HE HNb
        go_wp2_with fail
        refine wp_region_still_tail 6 (by kernel_rfl) (by kernel_rfl) ?_
        simp only [List.take_succ_cons, List.take_zero, List.drop_succ_cons, List.drop_zero]
        change wpStill _ _ (World.drew _) _ _ _
        still_step
        still_step
        still_step
        still_step
        still_step
        still_step
        refine wpStill_nil ?_
        change wpList _ _ _ _ _ (World.drew _)
        have HK1 := Lib.hid (HKn.out.step (Below.refl _ _).drew)
        clear c0 c1 x0 x1
        generalize World.drew _ = W3 at HK1 ⊢
        obtain ⟨c0, c1, x0, x1⟩ := HK1.out.cells
        go_wp2_with fail
        refine (HCt.out _ HK1.out.fb.low).mono ?_
        rintro e W4 ⟨r, rfl, hix, hb⟩
        have HK2 := Lib.hid (HK1.out.step hb)
        have HIx := Lib.hid hix.pos
        clear c0 c1 x0 x1 hb hix HCt
        obtain ⟨c0, c1, x0, x1⟩ := HK2.out.cells
        by_cases hr : 0 ≤ r
        · have HF := Lib.hid (show errT ts k = 7 by rw [HE2.out, if_pos (by rcases HIx.out with h | h; exact h.2; omega)])
          go_wp2_with fail
          go_ret
          exact ⟨by rw [chkS_type HLim.out (by rw [HTL.out]; exact hlt) HA.out (by rw [HF.out]; decide), HF.out]; rfl, HK2.out.fb.low⟩
        · have HE3 := Lib.hid (show errT ts k = if x < 1 ∨ 5 < x then 8 else 0 by rw [HE2.out, if_neg (by rcases HIx.out with h | h; omega; rw [h.2]; decide)])
          clear HE2
          by_cases hx : x < 1
          · have d3 : decide (x < (1 : Int)) = true := decide_eq_true hx
            have HF := Lib.hid (show errT ts k = 8 by rw [HE3.out, if_pos (.inl hx)])
            go_wp2_with fail
            go_ret
            exact ⟨by rw [chkS_type HLim.out (by rw [HTL.out]; exact hlt) HA.out (by rw [HF.out]; decide), HF.out]; rfl, HK2.out.fb.low⟩
          · have d3 : decide (x < (1 : Int)) = false := decide_eq_false hx
            by_cases hx5 : 5 < x
            · have d4 : decide ((5 : Int) < x) = true := decide_eq_true hx5
              have HF := Lib.hid (show errT ts k = 8 by rw [HE3.out, if_pos (.inr hx5)])
              go_wp2_with fail
              go_ret
              exact ⟨by rw [chkS_type HLim.out (by rw [HTL.out]; exact hlt) HA.out (by rw [HF.out]; decide), HF.out]; rfl, HK2.out.fb.low⟩
            · have d4 : decide ((5 : Int) < x) = false := decide_eq_false hx5
              have HF := Lib.hid (show errT ts k = 0 by rw [HE3.out, if_neg (by omega)])
              have HA2 := Lib.hid (show ∀ q, q < k + 1 → errT ts q = 0 from fun q hq => by
                by_cases h : q = k
                · rw [h]; exact HF.out
                · exact HA.out q (by omega))
              have HFB := Lib.hid HK2.out.fb
              go_wp2_with fail
              go_roundw
              case rel => exact ⟨k + 1, by omega, by go_num, HA2, HFB⟩
              case measure => simp [intOf]; omega
    · obtain rfl : n = k := by omega
      have e1 : decide ((n : Int) < (n : Int)) = false := decide_eq_false (by omega)
      have HAll := Lib.hid (show ∀ q, q < ts.length → errT ts q = 0 by rw [HTL.out]; exact HA.out)
      clear HA
      go_wp2_with fail
      clear e1
      go_loopw [5, 6] (fun i s6 wr => ∃ k : Nat, k ≤ m ∧ i = .int .i64 k ∧ Hid (∀ q, q < k → errC ts cs q = 0) ∧ Hid (FB w wr ao n cap bo m dap)) (fun i _ _ => m - (intOf i).toNat)
      case atStart => exact ⟨0, Nat.zero_le _, rfl, Lib.hid (fun q hq => absurd hq (Nat.not_lt_zero _)), HKj⟩
      case round =>
        clear c0 c1 HKj
        obtain ⟨k, hk2, rfl, HA, HKj⟩ := hrel
        obtain ⟨c0, c1⟩ := HKj.out.cells
        by_cases hlt : k < m
        · have e1 : decide ((k : Int) < (m : Int)) = true := decide_eq_true (by omega)
          have HCk := Lib.hid (classR_s _ ts cs k wr (HV.out.below HKj.out.low) (by rw [HCL.out]; exact hlt))
          obtain ⟨ec, hec⟩ : ∃ x, errC ts cs k = x := ⟨_, rfl⟩
          have HEc := Lib.hid hec
          rw [hec] at HCk
          clear hec
          go_wp2_with fail
          refine HCk.out.mono ?_
          rintro e W4 ⟨rfl, hb⟩
          have HK2 := Lib.hid (HKj.out.step hb)
          clear hb HCk c0 c1
          obtain ⟨c0, c1⟩ := HK2.out.cells
          by_cases h0 : ec = 0
          · have HA2 := Lib.hid (show ∀ q, q < k + 1 → errC ts cs q = 0 from fun q hq => by
              by_cases h : q = k
              · rw [h, HEc.out]; exact h0
              · exact HA.out q (by omega))
            have d3 : (ec != 0) = false := by rw [h0]; rfl
            have d4 : (ec == 0) = true := by rw [h0]; rfl
            go_wp2_with fail
            go_roundw
            case rel => exact ⟨k + 1, by omega, by go_num, HA2, HK2⟩
            case measure => simp [intOf]; omega
          · have d3 : (ec != 0) = true := by simpa using h0
            have d4 : (ec == 0) = false := by simpa using h0
            go_wp2_with fail
            go_ret
            exact ⟨by rw [chkS_class HLim.out HAll.out (by rw [HCL.out]; exact hlt) HA.out (by rw [HEc.out]; exact h0), HEc.out]; rfl, HK2.out.low⟩
        · obtain rfl : m = k := by omega
          have e1 : decide ((m : Int) < (m : Int)) = false := decide_eq_false (by omega)
          have HAc := Lib.hid (show ∀ q, q < cs.length → errC ts cs q = 0 by rw [HCL.out]; exact HA.out)
          have HEnd := Lib.hid (chkS_last HLim.out HAll.out HAc.out)
          have HCt := Lib.hid (typeAt_s ao n cap ts classN wr (HT.out.below HKj.out.low) HsT.out (by decide))
          unfold classN at HCt
          go_wp2_with fail
          refine HCt.out.mono ?_
          rintro e W4 ⟨r, rfl, hix, hb⟩
          have HK2 := Lib.hid (HKj.out.step hb)
          clear hb HCt c0 c1
          obtain ⟨c0, c1⟩ := HK2.out.cells
          rcases hix with ⟨q, rfl, hq, hty⟩ | ⟨rfl, hty⟩
          · have d3 : decide ((q : Int) < 0) = false := decide_eq_false (by omega)
            have hq' : q < n := by rw [← HTL.out]; exact hq
            obtain ⟨b, off, rfl, hbl, hs⟩ := (HT.out.below HK2.out.low).2.2.2 (by omega)
            obtain ⟨y0, y1, y2⟩ := hs q hq'
            clear hs
            have q0 : (0 : Int) ≤ (q : Int) := by omega
            have q1 : (q : Int) < (n : Int) := by omega
            obtain ⟨T, hT⟩ : ∃ x, tyAt ts q = x := ⟨_, rfl⟩
            rw [hT] at y0 y1 y2 hty
            obtain ⟨p, x, sg⟩ := T
            simp only at y0 y1 y2
            have HF := Lib.hid (show chkS ts cs = if x = 1 then 0 else 8 by
              rw [HEnd.out]
              unfold classN
              rw [hty]; rfl)
            clear hT hty
            by_cases hx : x = 1
            · have d5 : (x == 1) = true := by rw [hx]; rfl
              have d6 : (x != 1) = false := by rw [hx]; rfl
              go_wp2_with fail
              go_ret
              exact ⟨by rw [HF.out, if_pos hx]; rfl, HK2.out.low⟩
            · have d5 : (x == 1) = false := by simpa using hx
              have d6 : (x != 1) = true := by simpa using hx
              go_wp2_with fail
              go_ret
              exact ⟨by rw [HF.out, if_neg hx]; rfl, HK2.out.low⟩
          · have d3 : decide ((-1 : Int) < 0) = true := by decide
            have HF := Lib.hid (show chkS ts cs = 6 by
              rw [HEnd.out]
              unfold classN
              rw [hty]; rfl)
            clear hty
            go_wp2_with fail
            go_ret
            exact ⟨by rw [HF.out]; rfl, HK2.out.low⟩
end Go.Proofs.YtmmdaegdkikkpaaGreatDoor
end

section
/-
  Contracts of the specification's sound and Type. Condition: names of at most 1000000000 bytes.
-/
set_option maxRecDepth 100000
namespace Go.Proofs.YtmmdaegdkikkpaaGreatDoor
open Go.RowKit Go.PlainAid
end Go.Proofs.YtmmdaegdkikkpaaGreatDoor
end

section
/-
  Contract of the specification's lineage. Condition: names of at most 1000000000 bytes.
-/
set_option maxRecDepth 100000
namespace Go.Proofs.YtmmdaegdkikkpaaGreatDoor
open Go.RowKit Go.PlainAid
/-- a slice of indexes in memory -/
def IntsAt (w : World) (ao : Option Addr) (n cap : Nat) (ks : List Nat) : Prop :=
  ks.length = n ∧ n ≤ cap ∧ cap ≤ maxLen ∧ (0 < n → ∃ b off, ao = some ⟨b, off, none⟩ ∧ b < w.heap.size ∧ ∀ j, j < n → w.cell? ⟨b, off + j, none⟩ = some (.int .i64 ((ks.getD j 0 : Nat) : Int)))
theorem IntsAt.below {w w' : World} {ao : Option Addr} {n cap : Nat} {ks : List Nat} (h : IntsAt w ao n cap ks) (hb : Below w.heap.size w w') : IntsAt w' ao n cap ks :=
  ⟨h.1, h.2.1, h.2.2.1, fun hn => by
    obtain ⟨b, off, e, hi, hs⟩ := h.2.2.2 hn
    exact ⟨b, off, e, Nat.lt_of_lt_of_le hi hb.size, fun j hj => cell_later hb (hs j hj)⟩⟩
end Go.Proofs.YtmmdaegdkikkpaaGreatDoor
end

section
/-
  Contract of the specification's lower. Condition: at most 100000 names of at most 1000000000 bytes.
-/
set_option maxRecDepth 100000
namespace Go.Proofs.YtmmdaegdkikkpaaGreatDoor
open Go.RowKit Go.PlainAid
end Go.Proofs.YtmmdaegdkikkpaaGreatDoor
end

section
/-
  Contract of the specification's Lineage. Condition: names of at most 1000000000 bytes.
-/
set_option maxRecDepth 100000
set_option maxRecDepth 100000
namespace Go.Proofs.YtmmdaegdkikkpaaGreatDoor
open Go.RowKit Go.PlainAid
end Go.Proofs.YtmmdaegdkikkpaaGreatDoor
end

section
/-
  Contract of the specification's Must. Condition: names of at most 1000000000 bytes.
-/
set_option maxRecDepth 100000
namespace Go.Proofs.YtmmdaegdkikkpaaGreatDoor
open Go.RowKit Go.PlainAid
end Go.Proofs.YtmmdaegdkikkpaaGreatDoor
end

section
/-
  Contract of the specification's May. Condition: names of at most 1000000000 bytes.
-/
set_option maxRecDepth 100000
namespace Go.Proofs.YtmmdaegdkikkpaaGreatDoor
open Go.RowKit Go.PlainAid
theorem FB.grown {w W V : World} {ao : Option Addr} {n cap : Nat} {bo : Option Addr} {m dap : Nat} {r : Option Nat} (h : FB w W ao n cap bo m dap) (hg : W.grownBy V r) (hr : ∀ g, r = some g → w.heap.size + 1 ≤ g) : FB w V ao n cap bo m dap := by
  have hg' := hg
  obtain ⟨o2, t2, u2, s2, b2⟩ := hg
  exact ⟨(b2 _ h.big (fun e => by have := hr _ e.symm; omega)).trans h.box, h.low.grown hg' h.low.size (fun k hk => by have := hr k hk; omega), Nat.lt_of_lt_of_le h.big s2⟩
end Go.Proofs.YtmmdaegdkikkpaaGreatDoor
end

section
/-
  What the law SchemaLooks shares: lists that are the same, the specification's lists as values, the facts of its drawn region. No condition.
-/
set_option maxRecDepth 100000
namespace Go.Proofs.YtmmdaegdkikkpaaGreatDoor
open Go.RowKit Go.PlainAid
theorem lists_same {u v : Value} {l : List ByteArray} (w : World) (h : StrsV w u l) (k : StrsV w v l) : Calls Tryz.prog 51 #[u, v] w fun e w' => e = .returned (.bool true) ∧ Below w.heap.size w w' := by
  obtain ⟨ao, n, cap, rfl, h⟩ := h
  obtain ⟨bo, m, dap, rfl, k⟩ := k
  refine (lists_s ao bo n m cap dap l l w h k).mono fun e w' ⟨he, hb⟩ => ⟨?_, hb⟩
  rw [he, decide_eq_true rfl]
end Go.Proofs.YtmmdaegdkikkpaaGreatDoor
end

section
/-
  Contract of the law's subset, where it is one. No condition.
-/
set_option maxRecDepth 100000
set_option maxRecDepth 100000
namespace Go.Proofs.YtmmdaegdkikkpaaGreatDoor
open Go.RowKit Go.PlainAid
theorem beq_bytes {x y : ByteArray} (h : x ≠ y) : (x.toList == y.toList) = false := by
  rw [Lib.toList_data, Lib.toList_data]; exact beq_false_of_ne (fun k => h (ba_ext k))
end Go.Proofs.YtmmdaegdkikkpaaGreatDoor
end

section
/-
  Pure facts of the text form: pieces between bytes, and what reading a text and writing it undo of one another. No condition.
-/
set_option maxRecDepth 100000
namespace Go.Proofs.YtmmdaegdkikkpaaGreatDoor
open Go.RowKit Go.PlainAid
theorem pc_ne (c : UInt8) (l : List UInt8) : pieces c l ≠ [] := by
  cases l with
  | nil => simp [pieces]
  | cons x r =>
    unfold pieces
    split
    · simp
    · split <;> simp
theorem splitB_pc (c : UInt8) : ∀ (n : Nat) (s : ByteArray), s.size ≤ n → (Lib.splitB ⟨#[c]⟩ 0 (Lib.countB s ⟨#[c]⟩) s).map (·.data.toList) = pieces c s.data.toList := by
  intro n
  induction n with
  | zero =>
    intro s hs
    have h0 : s.data.toList = [] := List.length_eq_zero_iff.1 (by rw [← Lib.size_eq]; omega)
    have hi : Lib.indexB s ⟨#[c]⟩ = -1 := by
      rcases Lib.index_spec s.data.toList [c] with ⟨hi, _⟩ | ⟨i, _, hle, ho, _⟩
      · exact hi
      · have hg := (occ_one _ _ _).1 ho
        rw [h0] at hg; simp at hg
    rw [Lib.splitB_miss _ _ _ _ hi, h0]
    simp [pieces, h0]
  | succ n ih =>
    intro s hs
    rcases Lib.index_spec s.data.toList [c] with ⟨hi, hn⟩ | ⟨i, hi, hle, ho, hno⟩
    · have hi' : Lib.indexB s ⟨#[c]⟩ = -1 := hi
      rw [Lib.splitB_miss _ _ _ _ hi', pieces_miss c s.data.toList (fun j hj => by
        have hlt : j < s.data.toList.length := (List.getElem?_eq_some_iff.1 hj).1
        have := hn j (by omega)
        rw [(occ_one _ _ _).2 hj] at this
        cases this)]
      rfl
    · have hi' : Lib.indexB s ⟨#[c]⟩ = i := hi
      have hget := (occ_one _ _ _).1 ho
      have hlt : i < s.data.toList.length := (List.getElem?_eq_some_iff.1 hget).1
      have hno' : ∀ j, j < i → s.data.toList[j]? ≠ some c := fun j hj h => by
        have := hno j hj
        rw [(occ_one _ _ _).2 h] at this
        cases this
      have h1 : (⟨#[c]⟩ : ByteArray).size = 1 := rfl
      rw [Lib.countB_hit s ⟨#[c]⟩ i (by rw [h1]; exact Nat.le_refl _) hi', Nat.add_comm, Lib.splitB_hit _ _ _ _ i hi', List.map_cons, h1]
      have hsz := Lib.size_eq s
      have hr := ih (s.extract (i + 1) s.size) (by rw [Lib.size_eq, Lib.extract_to_end, List.length_drop]; omega)
      rw [hr, pieces_hit c _ i hget hno', Lib.extract_to_end, Lib.extract_from_zero, Nat.add_zero]
theorem partsB_pc (c : UInt8) (s : ByteArray) : (partsB c s).map (·.data.toList) = pieces c s.data.toList := splitB_pc c _ s (Nat.le_refl _)
end Go.Proofs.YtmmdaegdkikkpaaGreatDoor
end

section
/-
  Contracts of the specification's word and list. Condition: a list of at most 1000 names of at most 100000 bytes.
-/
set_option maxRecDepth 100000
namespace Go.Proofs.YtmmdaegdkikkpaaGreatDoor
open Go.RowKit Go.PlainAid
theorem join_more (sep x : List UInt8) : ∀ l : List (List UInt8), l ≠ [] → Lib.join (l ++ [x]) sep = Lib.join l sep ++ sep ++ x
  | [], h => absurd rfl h
  | y :: l, _ => by
    rw [List.cons_append, Lib.join_cons, Lib.join_cons]
    unfold Lib.joinTail
    simp
theorem list_first (l : List ByteArray) (h : 0 < l.length) : joinB 44 (l.take 1) = partAt l 0 := by
  match l, h with
  | x :: l, _ =>
    unfold joinB partAt
    rw [List.take_succ_cons, List.take_zero, List.map_cons, List.map_nil, Lib.join_one]
    exact Lib.mk_data _
theorem list_next (l : List ByteArray) (k : Nat) (h : k < l.length) (h0 : 0 < k) : joinB 44 (l.take (k + 1)) = joinB 44 (l.take k) ++ ⟨#[44]⟩ ++ partAt l k := by
  rw [take_snoc l k h]
  unfold joinB
  rw [List.map_append, List.map_cons, List.map_nil, join_more _ _ _ (by
    intro e
    have := congrArg List.length e
    rw [List.length_map, List.length_take, List.length_nil] at this
    omega)]
  have ha : ∀ a b : List UInt8, (⟨(a ++ b).toArray⟩ : ByteArray) = ⟨a.toArray⟩ ++ ⟨b.toArray⟩ := fun a b => by
    apply ByteArray.ext
    rw [ByteArray.data_append]
    simp
  rw [ha, ha]
theorem list_size (l : List ByteArray) (k : Nat) (hl : l.length ≤ 1000) (hz : ∀ s ∈ l, s.size ≤ 100000) : (joinB 44 (l.take k)).size ≤ 100001000 := by
  have h1 := joinB_le (sep := 44) (l := l.take k) (M := 100000) (fun s hs => hz s (List.mem_of_mem_take hs))
  have h2 : (l.take k).length ≤ 1000 := by rw [List.length_take]; omega
  have h3 : (l.take k).length * (100000 + 1) ≤ 1000 * 100001 := Nat.mul_le_mul_right _ h2
  omega
set_option maxHeartbeats 4000000 in
theorem word7_s (x : Int) (w : World) (h1 : 1 ≤ x) (h5 : x ≤ 5) :
    Calls Tryz.prog 61 #[.int .i64 x] w fun e w' => e = .returned (.string (synW x)) ∧ Below w.heap.size w w' := by
  have hb : ∀ o : Obj, Below w.heap.size w (w.alloc o) := fun o => below_al w o
  have HB := Lib.hid hb
  clear hb
  rcases (show x = 1 ∨ x = 2 ∨ x = 3 ∨ x = 4 ∨ x = 5 by omega) with rfl | rfl | rfl | rfl | rfl
  all_goals
    clear h1 h5
    go_enter Tryz.func61, Tryz.ntmps61
    go_wp2_with fail
    go_ret
    exact ⟨rfl, HB.out _⟩
set_option maxHeartbeats 4000000 in
theorem list7_s (ao : Option Addr) (n cap : Nat) (l : List ByteArray) (w : World) (h : StrsAt w ao n cap l) (hl : l.length ≤ 1000) (hz : ∀ s ∈ l, s.size ≤ 100000) :
    Calls Tryz.prog 62 #[.slice ao n cap] w fun e w' => e = .returned (.string (listW l)) ∧ Below w.heap.size w w' := by
  have HL := Lib.hid h.1
  have hnx := h.2.2.1
  have hnc := h.2.1
  unfold maxLen at hnx
  by_cases hn : n = 0
  · subst hn
    have HE := Lib.hid (show listW l = ⟨#[45]⟩ by unfold listW; rw [h.1]; rfl)
    clear h
    go_enter Tryz.func62, Tryz.ntmps62
    go_wp2_with fail
    go_ret
    exact ⟨by rw [HE.out]; rfl, Below.refl _ _⟩
  · have d1 : ((n : Int) == 0) = false := by simp; omega
    have HE := Lib.hid (show listW l = joinB 44 (l.take n) by unfold listW; rw [h.1, if_neg hn, List.take_of_length_le (by rw [h.1]; exact Nat.le_refl _)])
    have HS := Lib.hid (fun k => list_size l k hl hz)
    have HZ := Lib.hid hz
    have HH := Lib.hid h
    obtain ⟨b, off, rfl, hbl, hs⟩ := h.2.2.2 (by omega)
    have y0 := hs 0 (by rw [HL.out]; omega)
    have HF := Lib.hid (list_first l (by rw [h.1]; omega))
    rw [← HF.out] at y0
    have HC := Lib.hid hs
    rw [Nat.add_zero] at y0
    have d2 : (0 : Int) < (n : Int) := by omega
    clear h hs hl hz
    go_enter Tryz.func62, Tryz.ntmps62
    go_wp2_with fail
    go_loop [3, 4] (fun s i => ∃ k : Nat, 1 ≤ k ∧ k ≤ n ∧ i = .int .i64 k ∧ s = .string (joinB 44 (l.take k))) (fun _ i => n - (intOf i).toNat)
    case atStart => exact ⟨1, Nat.le_refl _, by omega, rfl, rfl⟩
    case round =>
      obtain ⟨k, hk1, hk, rfl, rfl⟩ := hrel
      by_cases hlt : k < n
      · have g1 : decide ((k : Int) < (n : Int)) = true := decide_eq_true (by omega)
        have g0 : (0 : Int) ≤ (k : Int) := by omega
        have g3 : (k : Int) < (n : Int) := by omega
        have yk := HC.out k (by rw [HL.out]; exact hlt)
        have hsz := HS.out k
        have hpz := HZ.out _ (part_mem l k (by rw [HL.out]; exact hlt))
        have HN := Lib.hid (list_next l k (by rw [HL.out]; exact hlt) (by omega))
        obtain ⟨x, hx⟩ : ∃ y, partAt l k = y := ⟨_, rfl⟩
        rw [hx] at yk hpz HN
        clear hx
        obtain ⟨s0, hs0⟩ : ∃ y, joinB 44 (l.take k) = y := ⟨_, rfl⟩
        rw [hs0] at hsz HN ⊢
        clear hs0
        go_wp2_with fail
        go_round
        case rel => exact ⟨k + 1, by omega, by omega, by go_num, by rw [HN.out]⟩
        case measure => simp [intOf]; omega
      · obtain rfl : n = k := by omega
        have g1 : decide ((n : Int) < (n : Int)) = false := decide_eq_false (by omega)
        go_wp2_with fail
        go_ret
        exact ⟨by rw [HE.out]; rfl, Below.refl _ _⟩
end Go.Proofs.YtmmdaegdkikkpaaGreatDoor
end
