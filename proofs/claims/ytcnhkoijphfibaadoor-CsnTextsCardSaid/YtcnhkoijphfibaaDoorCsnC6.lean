/-
  Contracts of csn.Join and Note. Condition: at most 400000 numbers in each slice.
-/
import Derived.Test.YtcnhkoijphfibaaDoorCsnC5
set_option maxRecDepth 100000
set_option linter.unusedVariables false
set_option linter.unusedSimpArgs false
set_option linter.unnecessarySimpa false
namespace Go.Proofs.YtcnhkoijphfibaaDoor
open Go.RowKit Go.PlainAid

set_option maxHeartbeats 8000000 in
theorem join_s (ao bo : Option Addr) (n m cap dap : Nat) (l k : List Cn) (w : World) (h : CnsAt w ao n cap l) (hk : CnsAt w bo m dap k) (hn : n ≤ 400000) (hm : m ≤ 400000) :
    Calls Tryd.prog 32 #[.slice ao n cap, .slice bo m dap] w fun e w' => ∃ xo q xc, e = .returned (.slice xo q xc) ∧ CnsAt w' xo q xc (joinC l k) ∧ Below w.heap.size w w' := by
  have H := Lib.hid h
  have HK := Lib.hid hk
  have HL := Lib.hid (vecO_len l)
  have HLk := Lib.hid (vecO_len k)
  have hl1 := h.1
  have hl2 := hk.1
  clear h hk
  go_enter Tryd.func32, Tryd.ntmps32
  go_wp2_with fail
  refine (vector_s ao n cap l _ H.out).mono ?_
  rintro e w1 ⟨xo, xn, xc, rfl, hx, hb⟩
  have HB1 := Lib.hid hb
  have HX1 := Lib.hid hx
  have HK1 := Lib.hid (HK.out.below hb)
  clear hx hb
  go_wp2_with fail
  refine (vector_s bo m dap k _ HK1.out).mono ?_
  rintro e w2 ⟨yo, yn, yc, rfl, hy, hb⟩
  have HB2 := Lib.hid (HB1.out.trans (hb.mono HB1.out.size))
  have HX2 := Lib.hid (HX1.out.below hb)
  have HY2 := Lib.hid hy
  clear hy hb
  have HB3 := Lib.hid (HB2.out.alloc HB2.out.size (twO xo xn xc yo yn yc))
  have HX3 := Lib.hid (HX2.out.below (box_below w2 (twO xo xn xc yo yn yc)))
  have HY3 := Lib.hid (HY2.out.below (box_below w2 (twO xo xn xc yo yn yc)))
  have HG3 := Lib.hid (kbc_new w2 (twO xo xn xc yo yn yc))
  have hxn : xn ≤ 400000 := by have h1 := HX2.out.1; have h2 := HL.out; omega
  have hyn : yn ≤ 400000 := by have h1 := HY2.out.1; have h2 := HLk.out; omega
  have HCc := Lib.hid (concat_s w2.heap.size xo yo xn yn xc yc _ _ _ HG3.out HX3.out HY3.out hxn hyn)
  unfold twO at HCc HB3
  go_wp2_with fail
  refine HCc.out.mono ?_
  rintro e w4 ⟨zo, zn, zc, rfl, hz, hb⟩
  have HB4 := Lib.hid (HB3.out.trans (hb.mono HB3.out.size))
  have HZ4 := Lib.hid hz
  clear hz hb
  go_wp2_with fail
  refine (least_s zo zn zc _ _ HZ4.out).mono ?_
  rintro e w5 ⟨uo, un, uc, rfl, hu, hb⟩
  have HB5 := Lib.hid (HB4.out.trans (hb.mono HB4.out.size))
  have HU := Lib.hid hu
  clear hu hb
  go_wp2_with fail
  go_ret
  exact ⟨uo, un, uc, rfl, HU.out, HB5.out⟩
set_option maxHeartbeats 8000000 in
theorem note_s (ao : Option Addr) (n cap : Nat) (l : List Cn) (c : Cn) (w : World) (h : CnsAt w ao n cap l) (hn : n ≤ 400000) :
    Calls Tryd.prog 27 #[.slice ao n cap, cnV c] w fun e w' => ∃ xo q xc, e = .returned (.slice xo q xc) ∧ CnsAt w' xo q xc (noteC l c) ∧ Below w.heap.size w w' := by
  have HB := Lib.hid (below_allocs [cnB c, cnB c] _ _ _ (Below.refl w.heap.size w) (Nat.le_refl _))
  have HN := Lib.hid (show CnsAt ((w.alloc (cnB c)).alloc (cnB c)) (some ⟨w.heap.size + 1, 0, none⟩) 1 1 [c] by
    have := cns_new (w.alloc (cnB c)) c
    rw [World.size_alloc] at this; exact this)
  have HJ := Lib.hid (join_s ao (some ⟨w.heap.size + 1, 0, none⟩) n 1 cap 1 l [c] _ (h.below HB.out) HN.out hn (by omega))
  clear h HN
  obtain ⟨t, s, r⟩ := c
  show Calls _ _ #[.slice ao n cap, .agg #[.int .i64 t, .int .i64 s, .int .i64 r]] w _
  unfold cnB at HB HJ
  dsimp only [List.foldl] at HB HJ
  go_enter Tryd.func27, Tryd.ntmps27
  go_wp2_with fail
  refine HJ.out.mono ?_
  rintro e w5 ⟨uo, un, uc, rfl, hu, hb⟩
  have HB5 := Lib.hid (HB.out.trans (hb.mono HB.out.size))
  have HU := Lib.hid hu
  clear hu hb
  go_wp2_with fail
  go_ret
  exact ⟨uo, un, uc, rfl, HU.out, HB5.out⟩

end Go.Proofs.YtcnhkoijphfibaaDoor
