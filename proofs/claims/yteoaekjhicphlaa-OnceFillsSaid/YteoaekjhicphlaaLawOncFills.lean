/-
  Proved: identitylaw27.OnceFills returns true for all arguments. No condition beyond the row's own.
-/
import Derived.Test.YteoaekjhicphlaaOncV
import Derived.Deep.RegionHeld3
set_option linter.unusedVariables false
set_option linter.unusedSimpArgs false
set_option linter.unnecessarySimpa false
namespace Go.Proofs.Yteoaekjhicphlaa
open Go.ChangeShapes Go.WideShapes Go.ChangeAt Go.RowKit Go.PlainAid
open Go.ChangeMaps (open_string shut_string)

/-- the identifiers -/
def sN (c : UInt8) : ByteArray := ⟨#[97]⟩ ++ ⟨#[c]⟩
theorem sN_size (c : UInt8) : (sN c).size ≤ 1000000000 := by unfold sN; rw [ByteArray.size_append]; show 1 + 1 ≤ 1000000000; decide
def bN (j : Nat) : UInt8 := UInt8.ofNat (97 + j)
def olN (til : Int) (i : Nat) : Ol := (List.range i).map fun j => (sN (bN j), til)
theorem olN_len (til : Int) (i : Nat) : (olN til i).length = i := by unfold olN; rw [List.length_map, List.length_range]
theorem sN_word : ∀ j, j < 20 → wordB (sN (bN j)) = true := by decide +kernel
theorem sN_one : ∀ j, j < 20 → ∀ k, k < 20 → sN (bN j) = sN (bN k) → j = k := by decide +kernel
theorem sN_b : ∀ j, j < 20 → sN (bN j) ≠ sB := by decide +kernel
theorem bN_nat {j : Nat} (h : j < 20) : (bN j).toNat = 97 + j := by unfold bN; simp; omega
theorem olN_none {til : Int} {i : Nat} {u : ByteArray} (h : ∀ j, j < i → sN (bN j) ≠ u) : olO (olN til i) u = none := by
  rw [olO_none]
  intro p hp
  obtain ⟨j, hj, rfl⟩ := List.mem_map.1 hp
  exact h j (List.mem_range.1 hj)
theorem olN_next {n til now : Int} {i : Nat} (hi : (i : Int) < n) (hn : n ≤ 20) (ht : now < til) (h0 : 0 ≤ now) : useP n (olN til i) (sN (bN i)) til now = (0, olN til (i + 1)) := by
  have hnone : olO (olN til i) (sN (bN i)) = none := olN_none fun j hj e => by have := sN_one j (by omega) i (by omega) e; omega
  have hat : atA (olN til i) (sN (bN i)) = 0 := by unfold atA; rw [hnone]; rfl
  unfold useP
  rw [sN_word i (by omega), if_neg (by decide), if_neg (by omega), hat, if_neg (by omega), hnone, if_neg (by simp), olN_len, if_pos hi]
  unfold olSet
  rw [hnone, if_neg (by simp)]
  unfold olN
  rw [List.range_succ, List.map_append]; rfl
theorem olN_b (til : Int) {i : Nat} (hi : i ≤ 20) : olO (olN til i) sB = none := olN_none fun j hj => sN_b j (by omega)
theorem olN_later {til now : Int} {i : Nat} (ht : now < til) : purA (olN til i) now = olN til i := by
  unfold purA
  rw [List.filter_eq_self]
  intro p hp
  obtain ⟨j, hj, rfl⟩ := List.mem_map.1 hp
  exact decide_eq_true ht
theorem olN_gone {til now : Int} {i : Nat} (ht : til ≤ now) : purA (olN til i) now = [] := by
  unfold purA
  rw [List.filter_eq_nil_iff]
  intro p hp
  obtain ⟨j, hj, rfl⟩ := List.mem_map.1 hp
  simp; omega
theorem word_b : wordB sB = true := by decide +kernel
theorem word_a : wordB sA = true := by decide +kernel
theorem olN_full {til now : Int} {i : Nat} (hi : i ≤ 20) (ht : now < til) (h0 : 0 ≤ now) : useP (i : Int) (olN til i) sB til now = (3, olN til i) := by
  have hat : atA (olN til i) sB = 0 := by unfold atA; rw [olN_b til hi]; rfl
  unfold useP
  rw [word_b, if_neg (by decide), if_neg (by omega), hat, if_neg (by omega), olN_b til hi, if_neg (by simp), olN_len, if_neg (by omega), olN_later ht, olN_len, if_neg (by omega)]
def olB (z : Int) : Ol := [(sB, z)]
theorem olN_free {til : Int} {i : Nat} (hi : i ≤ 20) (h1 : 1 ≤ i) (h0 : 0 ≤ til) : useP (i : Int) (olN til i) sB (til + 1) til = (0, olB (til + 1)) := by
  have hat : atA (olN til i) sB = 0 := by unfold atA; rw [olN_b til hi]; rfl
  unfold useP
  rw [word_b, if_neg (by decide), if_neg (by omega), hat, if_neg (by omega), olN_b til hi, if_neg (by simp), olN_len, if_neg (by omega), olN_gone (Int.le_refl _), if_pos (by show ((0 : Nat) : Int) < _; omega)]; rfl
theorem late_a {n til now : Int} (h : til ≤ now) : useP n [] sA til now = (13, []) := by
  unfold useP; rw [word_a, if_neg (by decide), if_pos h]
theorem lim_in {t : Int} (h0 : 0 ≤ t) (h1 : t ≤ 1000000) : limI t = t := by unfold limI; omega
set_option maxRecDepth 100000 in
set_option maxHeartbeats 16000000 in
theorem lofills_s (most : Int) (til : Int) (now : Int) (W : World) (Mmost : 0 ≤ most ∧ most ≤ 255) (Mtil : 0 ≤ til ∧ til ≤ 65535) (Mnow : 0 ≤ now ∧ now ≤ 65535) :
    Calls Try.prog 7 #[.int .u8 most, .int .u16 til, .int .u16 now] W fun e w' => e = .returned (.bool true) ∧ Below W.heap.size W w' := by
  obtain ⟨m, rfl⟩ := Int.eq_ofNat_of_zero_le Mmost.1
  have hm := Mmost.2
  obtain ⟨n, hn⟩ : ∃ n, 1 + m % 20 = n := ⟨_, rfl⟩
  have hn1 : 1 ≤ n := by omega
  have hn2 : n ≤ 20 := by omega
  have hr : Int.tmod (m : Int) 20 = ((m % 20 : Nat) : Int) := rfl
  have w0 : IntKind.i64.wrap (m : Int) = (m : Int) := IntWalk.i64_in _ (by omega)
  have wt : IntKind.i64.wrap til = til := IntWalk.i64_in _ (by omega)
  have ww : IntKind.i64.wrap now = now := IntWalk.i64_in _ (by omega)
  go_enter Try.func7, Try.ntmps7
  go_wp2_with fail
  have hE : (1 + (m : Int) % 20) = (n : Int) := by omega
  rw [hE]
  refine (pnew n W _ (Below.refl _ _) (by omega) (by omega)).mono ?_
  rintro e w2 ⟨b, rfl, g, hp, _, _, _⟩
  have HP := Lib.hid hp
  clear hp hr hE w0
  have HLt := Lib.hid (lim_in (t := til) Mtil.1 (by omega))
  have HLn := Lib.hid (lim_in (t := now) Mnow.1 (by omega))
  have HLt1 := Lib.hid (lim_in (t := til + 1) (by omega) (by omega))
  by_cases hle : til ≤ now
  · have HU : Hid (useP n [] sA (limI til) (limI now) = (13, [])) := Lib.hid (by rw [HLt.out, HLn.out]; exact late_a hle)
    go_wp2_with fail
    refine (puse W b g n [] [] sA til now 13 _ HP.out (by decide) HU.out).mono ?_
    rintro e w3 ⟨rfl, hp, _⟩
    have HP := Lib.hid hp
    clear hp
    go_wp2_with fail
    refine (plen W b g n [] 0 _ HP.out rfl).mono ?_
    rintro e w' ⟨rfl, rfl⟩
    go_wp2_with fail
    refine (alive_s _).mono ?_
    rintro e w9 ⟨rfl, hb⟩
    have HB := Lib.hid (HP.out.low.trans (hb.mono HP.out.low.size))
    clear hb
    go_wp2_with fail
    go_ret
    exact ⟨rfl, HB.out⟩
  · have hlt : now < til := by omega
    have hconv : ∀ (W : World) (g : Nat) (c : UInt8), W.cell? ⟨g, 0, none⟩ = some (.int .u8 (c.toNat : Int)) → (convert 45 9 (.slice (some ⟨g, 0, none⟩) 1 1)).run Try.prog W = .ok (.string ⟨#[c]⟩) W := fun W g c hc =>
      run_convert_bytes_back (P := Try.prog) W 45 9 5 ⟨g, 0, none⟩ 1 [c] Try.underlying45 Try.underlying5 Try.underlying9 (fun j hj => by
        have : j = 0 := by simpa using hj
        subst this
        exact hc)
    have HCv := Lib.hid hconv
    clear hconv
    go_wp2_with fail
    go_loopw [10] (fun iv wr => ∃ i : Nat, i ≤ n ∧ iv = .int .i64 i ∧ Hid (Pl W b g n (olN til i) wr)) (fun iv _ => n - (intOf iv).toNat)
    case atStart => exact ⟨0, Nat.zero_le _, rfl, HP⟩
    case round =>
      clear HP
      obtain ⟨i, hi, rfl, HP⟩ := hrel
      by_cases hin : i < n
      · have di : (i : Int) < (n : Int) := by omega
        have HU : Hid (useP n (olN til i) (sN (bN i)) (limI til) (limI now) = (0, olN til (i + 1))) := Lib.hid (by rw [HLt.out, HLn.out]; exact olN_next (by omega) (by omega) hlt Mnow.1)
        have hbn := bN_nat (j := i) (by omega)
        obtain ⟨c, hc⟩ : ∃ c, bN i = c := ⟨_, rfl⟩
        rw [hc] at HU hbn
        clear hc
        have w1 : IntKind.i64.wrap (97 + (i : Int)) = (c.toNat : Int) := by rw [IntWalk.i64_in _ (by omega)]; omega
        have w1' : IntKind.u8.wrap (97 + (i : Int)) = (c.toNat : Int) := by rw [IntWalk.u8_in _ (by omega)]; omega
        have w2 : IntKind.u8.wrap (c.toNat : Int) = (c.toNat : Int) := IntWalk.u8_in _ (by omega)
        have w3 : IntKind.i64.wrap ((i : Int) + 1) = ((i + 1 : Nat) : Int) := by rw [IntWalk.i64_in _ (by omega)]; omega
        have c1 := HCv.out (wr.alloc (.cells #[.int .u8 (c.toNat : Int)] 5)) wr.heap.size c ((kbc_new wr _).cell rfl)
        have HB1 := Lib.hid (box_below wr (.cells #[.int .u8 (c.toNat : Int)] 5))
        have HP := Lib.hid (HP.out.step HB1.out)
        have HNx := Lib.hid (olN_len til (i + 1))
        have hsz : sN c = (⟨#[97]⟩ : ByteArray) ++ ⟨#[c]⟩ := rfl
        clear hbn
        go_wp2_with fail
        refine (puse W b g n _ _ (sN c) til now 0 _ HP.out (sN_size c) HU.out).mono ?_
        rintro e w3 ⟨rfl, hp, _⟩
        have HP := Lib.hid hp
        clear hp
        have fn : ((((i + 1 : Nat)) : Int) != (((i + 1 : Nat)) : Int)) = false := bne_self_eq_false _
        go_wp2_with fail
        refine (plen W b g n _ (i + 1) _ HP.out HNx.out).mono ?_
        rintro e w' ⟨rfl, rfl⟩
        go_wp2_with fail
        go_roundw
        case rel => exact ⟨i + 1, by omega, by go_num, HP⟩
        case measure => simp [intOf]; omega
      · obtain rfl : i = n := by omega
        have HU1 : Hid (useP i (olN til i) sB (limI til) (limI now) = (3, olN til i)) := Lib.hid (by rw [HLt.out, HLn.out]; exact olN_full hn2 hlt Mnow.1)
        have HU2 : Hid (useP i (olN til i) sB (limI (til + 1)) (limI til) = (0, olB (til + 1))) := Lib.hid (by rw [HLt.out, HLt1.out]; exact olN_free hn2 hn1 Mtil.1)
        have w1 : IntKind.i64.wrap (til + 1) = til + 1 := IntWalk.i64_in _ (by omega)
        go_wp2_with fail
        refine (puse W b g i _ _ sB til now 3 _ HP.out (by decide) HU1.out).mono ?_
        rintro e w3 ⟨rfl, hp, _⟩
        have HP := Lib.hid hp
        clear hp
        go_wp2_with fail
        refine (puse W b g i _ _ sB (til + 1) til 0 _ HP.out (by decide) HU2.out).mono ?_
        rintro e w4 ⟨rfl, hp, _⟩
        have HP := Lib.hid hp
        clear hp
        go_wp2_with fail
        refine (plen W b g i (olB (til + 1)) 1 _ HP.out rfl).mono ?_
        rintro e w' ⟨rfl, rfl⟩
        go_wp2_with fail
        refine (alive_s _).mono ?_
        rintro e w9 ⟨rfl, hb⟩
        have HB := Lib.hid (HP.out.low.trans (hb.mono HP.out.low.size))
        clear hb
        go_wp2_with fail
        go_ret
        exact ⟨rfl, HB.out⟩

theorem lofills_types : ∀ t ∈ [5, 44, 44], Try.prog.readableRec t = true ∧ t < Try.prog.types.size := by
  have h : ([5, 44, 44].all fun t => Try.prog.readableRec t && decide (t < Try.prog.types.size)) = true := by kernel_rfl
  intro t ht
  have := List.all_eq_true.1 h t ht
  simpa using this

set_option maxRecDepth 100000 in
theorem lofills_contract (H : Type) (enc : TypeId × Value → H) (W : World) (base : Nat) (args : Array Value) (ds gs : List (DataW H)) (before : List MemPlace)
    (hval : ∀ (j : Nat) t v, Try.f7.params[j]? = some t → args[j]? = some v → Value.okWide Try.prog W .any base t v)
    (hW : DataW.Whole enc Try.prog Try.f7.params.toList Rows.onceFillsSpec.vars false W args.toList ds gs before) (hsh : W.ShapedOpen Try.prog) :
    Calls Try.prog 7 args W fun e W' => ∃ v, e = .returned v ∧ Rows.onceFillsSpec.post enc Try.prog Try.f7 false true false false W args v W' := by
  have hW' := hW
  obtain ⟨p, q, hA0, hV, rfl, hfz, hnd⟩ := hW
  have hA : DataW.TrodAll enc Try.prog W 0 (fun _ => true) true Try.f7.params.toList args.toList ds p := hA0
  obtain ⟨rfl, rfl⟩ := trodVars_none hV
  simp only [List.append_nil] at hW'
  have hlt : ∀ x ∈ p, x.block < W.heap.size := fun x hx => by simpa using hW'.lt x hx
  have fin : ∀ W', Below W.heap.size W W' → DataW.TrodAll enc Try.prog W' 0 (fun b => decide (b < W.heap.size)) true [5, 44, 44] args.toList ds p := fun W' hb => by
    rw [Try.params7] at hA
    exact trodAll_below hb _ _ _ _ lofills_types hA hlt
  clear hA0
  rw [Try.params7] at hA hval
  obtain ⟨v0, vs0, d0, ds0, p0, q0, hargs, rfl, hp0, h0, r0⟩ := trodAll_cons hA
  obtain ⟨v1, vs1, d1, ds1, p1, q1, rfl, rfl, hp1, h1, r1⟩ := trodAll_cons r0
  obtain ⟨v2, vs2, d2, ds2, p2, q2, rfl, rfl, hp2, h2, r2⟩ := trodAll_cons r1
  obtain ⟨rfl, rfl, rfl⟩ := trodAll_nil r2
  obtain rfl : args = #[v0, v1, v2] := by cases args; simp_all
  obtain ⟨most, rfl, rfl, rfl, hs0⟩ := open_int Try.underlying5 (hval 0 5 v0 rfl rfl) h0
  obtain ⟨til, rfl, rfl, rfl, hs1⟩ := open_int Try.underlying44 (hval 1 44 v1 rfl rfl) h1
  obtain ⟨now, rfl, rfl, rfl, hs2⟩ := open_int Try.underlying44 (hval 2 44 v2 rfl rfl) h2
  refine (lofills_s most til now W (u8_range hs0) (u16_range hs1) (u16_range hs2)).mono fun e W' ⟨he, hb⟩ => ?_
  subst he
  exact ⟨_, rfl, _, _, _, [], p, [], hW', trodAll_mk1 (shut_bool Try.underlying4 _), fin W' hb, rfl, hb.frame _, fun h => by cases h⟩

set_option maxRecDepth 100000 in
theorem lofills_lifted (os : Os) (started : os.Started) (H : Type) (enc : TypeId × Value → H) :
    ReturnsInHanded {} Try.checked os 7 .any (Rows.onceFillsSpec.pre6 enc Try.prog Try.f7 Rows.onceFillsRow.domain false) (Rows.onceFillsSpec.post enc Try.prog Try.f7 false true false false) := by
  refine returnsInHanded_of_change_shaped (C := Try.checked) own started (by kernel_rfl) Try.func7
    (ChangeSpec.witness6 (enc := enc) (C := Try.checked) false ⟨#[], #[.int .u8 0, .int .u16 0, .int .u16 0], []⟩ 8 (by kernel_rfl) (by kernel_rfl) (by kernel_rfl) (by kernel_rfl)) ?_
  intro W base args ds gs before hval hW _ _ hsh _
  exact lofills_contract H enc W base args ds gs before hval hW hsh

set_option maxRecDepth 100000 in
/-- THE STATEMENT -/
theorem lofills_said : Rows.OnceFillsSaid :=
  OpenClaim.holds_of_wide 7 Try.f7 rfl rfl rfl rfl rfl rfl rfl ⟨rfl, rfl, rfl, rfl, rfl⟩ rfl rfl rfl rfl rfl (by kernel_rfl) Try.func7 (by kernel_rfl)
    (of_decide_eq_true (by kernel_rfl)) (by unfold Func.isWrapper; first | (rw [if_pos (by decide +kernel)]; kernel_rfl) | (rw [if_neg (by decide +kernel)]; exact ⟨rfl, rfl⟩))
    (fun os started H enc _ => lofills_lifted os started H enc)
end Go.Proofs.Yteoaekjhicphlaa
