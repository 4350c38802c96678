/-
  Contracts of attrs.Get, Has, Names, joined and limited. Condition: as Sorted's.
-/
import Derived.Test.YtahpocpagidahaaAttP3
import Derived.Test.YtahpocpagidahaaShelfE
import Derived.Shelf.SlicesG.Turned
import Derived.Test.YtahpocpagidahaaAttR5
set_option linter.unusedVariables false
set_option linter.unusedSimpArgs false
set_option linter.unnecessarySimpa false
namespace Go.Proofs.Ytahpocpagidahaa
open Go.RowKit Go.PlainAid

theorem parts_vals {l : List At} {T B M A : List Tr} {lw : ByteArray} {hv : Value} (hT : tats T = nf l) (h : Parts T lw B M A hv) {w : World} (hO : TOk w T) : Hdr w hv (vals l lw) := by
  rcases h.mid with ⟨hM, rfl⟩ | ⟨vs, hM⟩
  · have e : vals l lw = [] := by
      refine Classical.not_not.1 fun e => ?_
      have := nf_mem.2 ⟨(rfl : ((lw, vals l lw) : At).2 = vals l (lw, vals l lw).1), e⟩
      rw [← hT] at this
      obtain ⟨t, ht, e2⟩ := List.mem_map.1 this
      have e3 : t.1 = lw := congrArg Prod.fst e2
      rw [h.all, hM, List.append_nil] at ht
      rcases List.mem_append.1 ht with k | k
      · exact cs_ne (h.lo t k) e3
      · exact cs_ne (h.hi t k) e3.symm
    rw [e]; exact hdr_nil w
  · have hm : (lw, hv, vs) ∈ T := by rw [h.all, hM]; simp
    have h2 : (lw, vs) ∈ nf l := by rw [← hT]; exact List.mem_map.2 ⟨_, hm, rfl⟩
    have e := (nf_mem.1 h2).1
    have e' : vs = vals l lw := e
    rw [← e']
    exact hO _ hm
theorem parts_mid {l : List At} {T B M A : List Tr} {lw : ByteArray} {hv : Value} (hT : tats T = nf l) (h : Parts T lw B M A hv) : tats B ++ tats A = wthL l lw := by
  unfold wthL
  rw [← hT, h.all, tats_append, tats_append, List.filter_append, List.filter_append]
  have e1 : (tats B).filter (fun a => decide (a.1 ≠ lw)) = tats B := by
    rw [List.filter_eq_self]
    intro a ha
    obtain ⟨t, ht, rfl⟩ := List.mem_map.1 ha
    exact decide_eq_true (cs_ne (h.lo t ht))
  have e2 : (tats A).filter (fun a => decide (a.1 ≠ lw)) = tats A := by
    rw [List.filter_eq_self]
    intro a ha
    obtain ⟨t, ht, rfl⟩ := List.mem_map.1 ha
    exact decide_eq_true (cs_ne (h.hi t ht)).symm
  have e3 : (tats M).filter (fun a => decide (a.1 ≠ lw)) = [] := by
    rcases h.mid with ⟨hM, _⟩ | ⟨vs, hM⟩
    · rw [hM]; rfl
    · rw [hM]; simp [tats]
  rw [e1, e2, e3, List.append_nil]
theorem nf_names_asc {l : List At} {T : List Tr} (hT : tats T = nf l) : Asc ((tats T).map (·.1)) := by rw [hT]; exact (nf_NF l).asc

set_option maxRecDepth 100000 in
set_option maxHeartbeats 4000000 in
theorem get_s (ao : Option Addr) (n cap : Nat) (l : List At) (name : ByteArray) (w : World) (h : AttrsAt w ao n cap l) (hF : Few l) (hns : name.size ≤ 1000000) :
    Calls Try.prog 21 #[.slice ao n cap, .string name] w fun e w' => ∃ v, e = .returned v ∧ Hdr w' v (vals l (lowS name)) ∧ Below w.heap.size w w' := by
  have HR := Lib.hid (sorted_s ao n cap l w h hF)
  have hlen := Nat.le_trans (nf_len l) hF.len
  go_enter Try.func21, Try.ntmps21
  go_wp2_with fail
  refine HR.out.mono ?_
  rintro e w1 ⟨v, T, rfl, hT, hTO, _, hown, hb⟩
  obtain ⟨hTl, xo, xc, rfl, hat, _, hz, hp⟩ := ts_owns hown
  have HRD := Lib.hid (around_s xo T.length xc T name w1 hat (nf_names_asc hT) (by rw [← tats_len, hT]; exact hlen) hz hp hns)
  have HTO := Lib.hid hTO.ok
  have HB := Lib.hid hb
  have HT := Lib.hid hT
  clear HR h hF hat hTO hb hown hT hlen hz hp hTl
  go_wp2_with fail
  refine HRD.out.mono ?_
  rintro e w2 ⟨B, M, A, hv, bo, c, rfl, hP, _, _, _, hb⟩
  have hH := (parts_vals HT.out hP HTO.out).below hb
  go_wp2_with fail
  go_ret
  exact ⟨_, rfl, hH, HB.out.trans (hb.mono HB.out.size)⟩

theorem contains_mem (l : List ByteArray) (s : ByteArray) : Lib.containsS l s = memB l s := by
  rw [Bool.eq_iff_iff, memB_iff, Lib.containsS_iff]
set_option maxRecDepth 100000 in
set_option maxHeartbeats 4000000 in
theorem hasv_s (ao : Option Addr) (n cap : Nat) (l : List At) (name x : ByteArray) (w : World) (h : AttrsAt w ao n cap l) (hF : Few l) (hns : name.size ≤ 1000000) :
    Calls Try.prog 23 #[.slice ao n cap, .string name, .string x] w fun e w' => e = .returned (.bool (memB (vals l (lowS name)) x)) ∧ Below w.heap.size w w' := by
  have HR := Lib.hid (get_s ao n cap l name w h hF hns)
  obtain ⟨vs, hvs⟩ : ∃ x, vals l (lowS name) = x := ⟨_, rfl⟩
  rw [hvs] at HR
  rw [hvs]
  clear hvs h hF
  go_enter Try.func23, Try.ntmps23
  go_wp2_with fail
  refine HR.out.mono ?_
  rintro e w1 ⟨u, rfl, ⟨xo, xn, xc, rfl, hs⟩, hb⟩
  have HC : Hid (Calls Try.prog 50 #[.slice xo xn xc, .string x] w1 fun e w' => e = .returned (.bool (memB vs x)) ∧ w' = w1) := Lib.hid (by
    by_cases h0 : 0 < xn
    · obtain ⟨b, off, rfl, hi⟩ := hs.2.2.2 h0
      refine (AnyG.slices_Contains_string Try.contains b off xn xc vs x w1 (by rw [hs.1]; exact Nat.le_refl _) (Nat.le_trans hs.2.1 hs.2.2.1) (fun j hj => hi.2 j hj)).mono ?_
      rintro e w' ⟨rfl, rfl⟩
      rw [List.take_of_length_le (by rw [hs.1]; exact Nat.le_refl _), contains_mem]
      exact ⟨rfl, rfl⟩
    · obtain rfl : xn = 0 := by omega
      have e0 : vs = [] := List.length_eq_zero_iff.1 hs.1
      subst e0
      exact AnyG.slices_Contains_string_empty Try.contains xo xc x w1)
  clear hs HR
  go_wp2_with fail
  refine HC.out.mono ?_
  rintro e w2 ⟨rfl, rfl⟩
  go_wp2_with fail
  go_ret
  exact ⟨rfl, hb⟩

set_option maxRecDepth 100000 in
set_option maxHeartbeats 4000000 in
theorem names_s (ao : Option Addr) (n cap : Nat) (l : List At) (w : World) (h : AttrsAt w ao n cap l) (hF : Few l) :
    Calls Try.prog 25 #[.slice ao n cap] w fun e w' => ∃ v, e = .returned v ∧ Hdr w' v (names l) ∧ Below w.heap.size w w' := by
  have HR := Lib.hid (sorted_s ao n cap l w h hF)
  have hlen := Nat.le_trans (nf_len l) hF.len
  go_enter Try.func25, Try.ntmps25
  go_wp2_with fail
  refine HR.out.mono ?_
  rintro e w1 ⟨v, T, rfl, hT, hTO, _, hown, hb⟩
  obtain ⟨_, xo, xc, rfl, hat, _⟩ := ts_owns hown
  have HTA := Lib.hid hat
  have HTK := Lib.hid hTO.ok
  have HB := Lib.hid hb
  have HT := Lib.hid hT
  have hTl : T.length ≤ 1000 := by rw [← tats_len, hT]; exact hlen
  have hxc : xc ≤ 9223372036854775807 := hat.2.2.1
  have HNL := Lib.hid (names_tlen hT)
  clear HR h hF hat hTO hb hown hT hlen
  obtain ⟨ns, hns⟩ : ∃ x, names l = x := ⟨_, rfl⟩
  have HNS := Lib.hid hns
  rw [hns] at HNL
  clear hns
  go_wp2_with fail
  go_loopw [3, 5, 9] (fun s3 s5 i wr => ∃ q : Nat, q ≤ T.length ∧ i = .int .i64 q ∧ wr.ownsRow w1.heap.size 9 1 s3 (ns.take q).length (scells (ns.take q)) ∧ Hid (Below w1.heap.size w1 wr)) (fun _ _ i _ => T.length - (intOf i).toNat)
  case atStart => exact ⟨0, Nat.zero_le _, rfl, World.ownsRow_nil _ _ _ _, Lib.hid (Below.refl _ _)⟩
  case round =>
    obtain ⟨q, hq, rfl, hown, HB2⟩ := hrel
    by_cases hlt : q < T.length
    · obtain ⟨b, off, rfl, hblt, _⟩ := HTA.out.2.2.2 (by omega)
      obtain ⟨a0, a1⟩ := ts_at HTA.out q hlt
      have a0 := cell_later HB2.out a0
      have a1 := cell_later HB2.out a1
      have HPN := Lib.hid (names_part HT.out q hlt)
      have hhd := HTK.out _ (tr_mem T q hlt)
      obtain ⟨x, hx⟩ : ∃ x, trD T q = x := ⟨_, rfl⟩
      rw [hx] at a0 a1 HPN hhd
      clear hx
      obtain ⟨p, hd, vs⟩ := x
      simp only [] at a0 a1 HPN hhd
      obtain ⟨ho, hnn, hcc, rfl, _⟩ := hhd
      rw [HNS.out] at HPN
      have HTS := Lib.hid (show ns.take (q + 1) = ns.take q ++ [p] by rw [HPN.out]; exact take_snoc ns q (by have := HNL.out; omega))
      have hql : (ns.take q).length ≤ 1000 := by rw [List.length_take]; omega
      have d1 : (q : Int) < (T.length : Int) := by omega
      have hsz := HB2.out.size
      have X1 := (abox_new wr p (.slice ho hnn hcc)).cells
      obtain ⟨x0, x1⟩ := X1
      have hown1 := hown.alloc (.cells #[.string p, .slice ho hnn hcc] 42)
      have hba : Below w1.heap.size w1 (wr.alloc (.cells #[.string p, .slice ho hnn hcc] 42)) := HB2.out.alloc hsz _
      have hszA := hba.size
      go_wp2_with (at_builtin; go_must (refine push_str (wr.alloc (.cells #[.string p, .slice ho hnn hcc] 42)) hown1 (.tmp 13) (.tmp 16) p ?_ ?_ ?_ ?_ ?_ ?_ ?_; exact rfl; exact rfl; exact rfl; (rw [World.size_alloc]; exact rfl); omega; exact hszA; intro v3 w3 hown3 hb3))
      go_roundw
      case rel => exact ⟨q + 1, by omega, by go_num, by rw [HTS.out, scells_snoc, List.length_append]; exact hown3, Lib.hid (hba.trans hb3)⟩
      case measure => simp [intOf]; omega
    · obtain rfl : T.length = q := by omega
      have HE := Lib.hid (show ns.take T.length = ns from List.take_of_length_le (by rw [HNL.out]; exact Nat.le_refl _))
      go_wp2_with fail
      go_ret
      rw [HE.out] at hown
      exact ⟨_, rfl, by rw [HNS.out]; exact hdr_owns hown, HB.out.trans (HB2.out.mono HB.out.size)⟩

end Go.Proofs.Ytahpocpagidahaa
