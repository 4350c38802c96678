/-
  Texts of the schema layer and of those beneath it, joined: SchCuR, SchNaR, SchTlA, SchTlR. Conditions stand at each contract.
-/
import Derived.Test.YtmmdaegdkikkpaaGreatDoorP14
import Derived.Test.YtmmdaegdkikkpaaGreatDoorP15
import Derived.Test.YtmmdaegdkikkpaaGreatDoorP19
set_option linter.unusedVariables false
set_option linter.unusedSimpArgs false
set_option linter.unnecessarySimpa false

section
/-
  Contract of the specification's Cut. Condition: at most 1000000 bytes.
-/
set_option maxRecDepth 100000
namespace Go.Proofs.YtmmdaegdkikkpaaGreatDoor
open Go.RowKit Go.PlainAid
theorem extract_ofL (s : ByteArray) (i j : Nat) (h : j ≤ s.size) : s.extract i j = ofL ((s.data.toList.drop i).take (j - i)) := by
  have h1 := Lib.extract_toList s i j
  rw [← Lib.mk_data (s.extract i j), ← Lib.toList_data, h1]
  rfl
theorem pieces_step (s : ByteArray) (b : UInt8) (f i : Nat) (hf : f ≤ i) (hi : i < s.size) (hb : chr s i = b) (hn : ∀ j, f ≤ j → j < i → chr s j ≠ b) :
    pieces b (s.data.toList.drop f) = ((s.data.toList.drop f).take (i - f)) :: pieces b (s.data.toList.drop (i + 1)) := by
  have hg : ∀ j, j < s.size → s.data.toList[j]? = some (chr s j) := fun j hj => by
    unfold chr
    rw [List.getD_eq_getElem?_getD, List.getElem?_eq_getElem (by simpa using hj)]; rfl
  rw [pieces_hit b _ (i - f) ?_ ?_]
  · rw [List.drop_drop]
    congr 3; omega
  · rw [List.getElem?_drop, show f + (i - f) = i by omega, hg i hi, hb]
  · intro j hj
    rw [List.getElem?_drop, hg (f + j) (by omega)]
    intro e
    exact hn (f + j) (by omega) (by omega) (by simpa using e)
theorem pieces_last (s : ByteArray) (b : UInt8) (f : Nat) (hn : ∀ j, f ≤ j → j < s.size → chr s j ≠ b) : pieces b (s.data.toList.drop f) = [s.data.toList.drop f] := by
  refine pieces_miss b _ fun j => ?_
  rw [List.getElem?_drop]
  intro e
  obtain ⟨h1, h2⟩ := List.getElem?_eq_some_iff.1 e
  have hlt : f + j < s.size := by simpa using h1
  refine hn (f + j) (by omega) hlt ?_
  unfold chr
  rw [List.getD_eq_getElem?_getD, e]; rfl
theorem parts_ofL (c : UInt8) (s : ByteArray) : partsB c s = (pieces c s.data.toList).map ofL := by
  rw [← partsB_pc, List.map_map]
  conv => lhs; rw [← List.map_id (partsB c s)]
  exact List.map_congr_left fun x _ => (Lib.mk_data x).symm
set_option maxHeartbeats 8000000 in
theorem cut7_s (s : ByteArray) (b : UInt8) (x : Int) (w : World) (hs : s.size ≤ 1000000) (hx : x = (b.toNat : Int)) :
    Calls Tryz.prog 65 #[.string s, .int .u8 x] w fun e w' => ∃ v, e = .returned v ∧ w'.ownsRow w.heap.size 9 1 v (partsB b s).length (scells (partsB b s)) ∧ Below w.heap.size w w' := by
  have hb := get_bt s
  have HX := Lib.hid hx; clear hx
  have HPB := Lib.hid (parts_ofL b s)
  go_enter Tryz.func65, Tryz.ntmps65
  go_wp2
  go_loopw [5, 6, 7] (fun lv fv iv wr => ∃ (i f : Nat) (out : List (List UInt8)), i ≤ s.size + 1 ∧ fv = .int .i64 f ∧ iv = .int .i64 i ∧ out.length ≤ i ∧ Hid (i ≤ s.size → f ≤ i) ∧ Hid (i ≤ s.size → ∀ j, f ≤ j → j < i → chr s j ≠ b) ∧
      Hid (i ≤ s.size → pieces b s.data.toList = out ++ pieces b (s.data.toList.drop f)) ∧ Hid (s.size < i → pieces b s.data.toList = out) ∧ wr.ownsRow w.heap.size 9 1 lv out.length (scells (out.map ofL)) ∧ Below w.heap.size w wr)
    (fun _ _ iv _ => s.size + 1 - (intOf iv).toNat)
  case atStart => exact ⟨0, 0, [], Nat.zero_le _, rfl, rfl, by simp, Lib.hid (fun _ => Nat.le_refl _), Lib.hid (fun _ j _ hj => absurd hj (Nat.not_lt_zero _)), Lib.hid (fun _ => rfl), Lib.hid (fun h => absurd h (Nat.not_lt_zero _)), World.ownsRow_nil _ _ _ _, Below.refl _ _⟩
  case round =>
    obtain ⟨i, f, out, hi, rfl, rfl, hol, HFI, HN, HU, HE, hown, hbel⟩ := hrel
    by_cases hlt : i < s.size
    · have hf : f ≤ i := HFI.out (by omega)
      have HC := Lib.hid (bt_chr s i)
      have g1 : decide ((i : Int) ≤ (s.size : Int)) = true := decide_eq_true (by omega)
      have g2 : ((i : Int) == (s.size : Int)) = false := by simp; omega
      cases c0 : (bt s i == x)
      · have HNB := Lib.hid (show chr s i ≠ b from fun e => by
          have h1 : bt s i = x := by rw [HC.out, e, HX.out]
          rw [h1] at c0; simp at c0)
        go_wp2
        go_roundw
        case rel => exact ⟨i + 1, f, out, by omega, rfl, by go_num, by omega, Lib.hid (fun _ => by omega), Lib.hid (fun _ j h1 h2 => if e : j = i then by rw [e]; exact HNB.out else HN.out (by omega) j h1 (by omega)), Lib.hid (fun _ => HU.out (by omega)), Lib.hid (fun h => absurd h (by omega)), hown, hbel⟩
        case measure => simp [intOf]; omega
      · have HB := Lib.hid (show chr s i = b by
          have h1 : bt s i = x := beq_iff_eq.1 c0
          exact UInt8.toNat_inj.1 (by have := HC.out; have := HX.out; omega))
        have HST := Lib.hid (pieces_step s b f i hf hlt HB.out (HN.out (by omega)))
        have hex := extract_ofL s f i (by omega)
        have hcells : scells ((out ++ [(s.data.toList.drop f).take (i - f)]).map ofL) = scells (out.map ofL) ++ [.string (ofL ((s.data.toList.drop f).take (i - f)))] := by simp [scells]
        have HCE := Lib.hid hcells; clear hcells
        go_wp2_with (at_builtin; go_must (refine push_str _ hown (.tmp 25) (.tmp 30) _ ?_ ?_ ?_ ?_ ?_ ?_ ?_; exact rfl; exact rfl; exact rfl; exact rfl; omega; exact hbel.size; intro v' w1 hown1 hb1))
        go_roundw
        case rel => exact ⟨i + 1, i + 1, out ++ [(s.data.toList.drop f).take (i - f)], by omega, by go_num, by go_num, by simp; omega, Lib.hid (fun _ => Nat.le_refl _), Lib.hid (fun _ j h1 h2 => absurd h1 (by omega)), Lib.hid (fun _ => by rw [HU.out (by omega), HST.out]; simp), Lib.hid (fun h => absurd h (by omega)), by rw [HCE.out, List.length_append]; exact hown1, hbel.trans hb1⟩
        case measure => simp [intOf]; omega
    · by_cases hie : i = s.size
      · subst hie
        have hf : f ≤ s.size := HFI.out (Nat.le_refl _)
        have g1 : decide ((s.size : Int) ≤ (s.size : Int)) = true := decide_eq_true (by omega)
        have HST := Lib.hid (pieces_last s b f (fun j h1 h2 => HN.out (Nat.le_refl _) j h1 h2))
        have hex := Lib.extract_from s f
        have hcells : scells ((out ++ [s.data.toList.drop f]).map ofL) = scells (out.map ofL) ++ [.string (s.extract f s.size)] := by rw [hex]; simp [scells, ofL]
        have HCE := Lib.hid hcells; clear hcells hex
        go_wp2_with (at_builtin; go_must (refine push_str _ hown (.tmp 25) (.tmp 30) _ ?_ ?_ ?_ ?_ ?_ ?_ ?_; exact rfl; exact rfl; exact rfl; exact rfl; omega; exact hbel.size; intro v' w1 hown1 hb1))
        go_roundw
        case rel => exact ⟨s.size + 1, s.size + 1, out ++ [s.data.toList.drop f], Nat.le_refl _, by go_num, by go_num, by simp; omega, Lib.hid (fun h => absurd h (by omega)), Lib.hid (fun h => absurd h (by omega)), Lib.hid (fun h => absurd h (by omega)), Lib.hid (fun _ => by rw [HU.out (Nat.le_refl _), HST.out]), by rw [HCE.out, List.length_append]; exact hown1, hbel.trans hb1⟩
        case measure => simp [intOf] <;> omega
      · obtain rfl : i = s.size + 1 := by omega
        have g1 : decide (((s.size + 1 : Nat) : Int) ≤ (s.size : Int)) = false := decide_eq_false (by omega)
        have HF := Lib.hid (HE.out (by omega))
        go_wp2
        go_ret
        refine ⟨_, rfl, ?_, hbel⟩
        rw [HPB.out, HF.out, List.length_map]
        exact hown
end Go.Proofs.YtmmdaegdkikkpaaGreatDoor
end

section
/-
  Contract of the specification's names. Condition: at most 1000000 bytes.
-/
set_option maxRecDepth 100000
namespace Go.Proofs.YtmmdaegdkikkpaaGreatDoor
open Go.RowKit Go.PlainAid
theorem all_take_snoc {l : List ByteArray} {k : Nat} (h : k < l.length) (h0 : ∀ s ∈ l.take k, nameB s = true) (h1 : nameB (partAt l k) = true) : ∀ s ∈ l.take (k + 1), nameB s = true := fun s hs => by
  rw [take_snoc l k h] at hs
  rcases List.mem_append.1 hs with q | q
  · exact h0 s q
  · rw [List.mem_singleton.1 q]; exact h1
theorem parts_small {c : UInt8} {s x : ByteArray} (h : x ∈ partsB c s) : x.size ≤ s.size := split_small _ _ _ _ h
theorem parts_count (c : UInt8) (s : ByteArray) : (partsB c s).length ≤ s.size + 1 := by
  have hp : ∀ l : List UInt8, (pieces c l).length ≤ l.length + 1 := fun l => by
    induction l with
    | nil => simp [pieces]
    | cons x l ih =>
      unfold pieces
      split
      · rw [List.length_cons, List.length_cons]; omega
      · split
        · rename_i p r e; rw [e, List.length_cons] at ih; rw [List.length_cons, List.length_cons]; omega
        · simp
  rw [parts_ofL, List.length_map, Lib.size_eq]
  exact hp _
set_option maxHeartbeats 8000000 in
theorem names7_s (s : ByteArray) (w : World) (hs : s.size ≤ 1000000) :
    Calls Tryz.prog 125 #[.string s] w fun e w' => ∃ ao n cap, e = .returned (.tuple #[.slice ao n cap, .bool (rdListB s)]) ∧ StrsAt w' ao n cap (rdListV s) ∧ FreshA w.heap.size ao ∧ Below w.heap.size w w' := by
  have hd := dash_eq s
  have hnil : ∀ W : World, StrsAt W none 0 0 [] := fun W => ⟨rfl, Nat.le_refl _, by unfold maxLen; omega, fun h => absurd h (Nat.lt_irrefl _)⟩
  have HNil := Lib.hid hnil
  clear hnil
  by_cases h : s = dashN
  · rw [decide_eq_true h] at hd
    have HE := Lib.hid (show rdListB s = true ∧ rdListV s = [] from ⟨by unfold rdListB; rw [decide_eq_true h]; rfl, by unfold rdListV; rw [if_pos h]⟩)
    clear h
    go_enter Tryz.func125, Tryz.ntmps125
    go_wp2_with fail
    refine bodyPost_ret (v := .tuple #[.slice none 0 0, .bool true]) (by simp only [results, Tryz.results125]; go_simp) rfl ?_
    exact ⟨none, 0, 0, by rw [HE.out.1], by rw [HE.out.2]; exact HNil.out _, (fun b off e => by cases e), Below.refl _ _⟩
  · rw [decide_eq_false h] at hd
    have HCt := Lib.hid (cut7_s s 44 44 w hs rfl)
    have HB := Lib.hid (show rdListB s = (partsB 44 s).all nameB by unfold rdListB; rw [decide_eq_false h]; rfl)
    have HV := Lib.hid (show rdListV s = if (partsB 44 s).all nameB = true then partsB 44 s else [] by unfold rdListV; rw [if_neg h])
    have HZ := Lib.hid (fun x (hx : x ∈ partsB 44 s) => show x.size ≤ 1000000000 from by have := parts_small hx; omega)
    have hlc := parts_count 44 s
    clear h
    obtain ⟨ps, hps⟩ : ∃ x, partsB 44 s = x := ⟨_, rfl⟩
    rw [hps] at HCt HB HV HZ hlc
    clear hps
    go_enter Tryz.func125, Tryz.ntmps125
    go_wp2_with fail
    refine HCt.out.mono ?_
    rintro e w1 ⟨v, rfl, hown, hb⟩
    obtain ⟨ao, n, cap, rfl, hst⟩ := strsV_own hown
    have HSt := Lib.hid hst
    have HFr := Lib.hid (show FreshA w.heap.size ao from by rw [hst.1] at hown; exact strs_fresh hown)
    have HL := Lib.hid hst.1
    have hnx := hst.2.2.1
    have hnn := hst.2.1
    unfold maxLen at hnx
    have HBl := Lib.hid hb
    clear hown hb hst HCt
    go_wp2_with fail
    go_loopw [5] (fun i wr => ∃ k : Nat, k ≤ n ∧ i = .int .i64 k ∧ Hid (∀ s ∈ ps.take k, nameB s = true) ∧ Hid (Below w1.heap.size w1 wr)) (fun i _ => n - (intOf i).toNat)
    case atStart => exact ⟨0, Nat.zero_le _, rfl, Lib.hid (fun s hs => by rw [List.take_zero] at hs; cases hs), Lib.hid (Below.refl _ _)⟩
    case round =>
      obtain ⟨k, hk, rfl, HQ, HW⟩ := hrel
      by_cases hlt : k < n
      · have d1 : decide ((k : Int) < (n : Int)) = true := decide_eq_true (by omega)
        have d0 : (0 : Int) ≤ (k : Int) := by omega
        have d3 : (k : Int) < (n : Int) := by omega
        have hkl : k < ps.length := by rw [HL.out]; exact hlt
        obtain ⟨b, off, rfl, hbl, hc⟩ := (HSt.out.below HW.out).2.2.2 (by omega)
        have yk := hc k hkl
        clear hc
        have hz := HZ.out _ (part_mem ps k hkl)
        have HTk := Lib.hid (all_take_snoc hkl HQ.out)
        have HAl := Lib.hid (show nameB (partAt ps k) = false → ps.all nameB = false from fun h => by
          rw [List.all_eq_false]; exact ⟨_, part_mem ps k hkl, by rw [h]; simp⟩)
        obtain ⟨x, hx⟩ : ∃ y, partAt ps k = y := ⟨_, rfl⟩
        rw [hx] at yk hz HTk HAl
        clear hx
        have HN := Lib.hid (rName_s x wr (by omega))
        obtain ⟨g, hg⟩ : ∃ y, nameB x = y := ⟨_, rfl⟩
        rw [hg] at HN HTk HAl
        clear hg
        cases g
        · have HF := Lib.hid (HAl.out rfl)
          go_wp2_with fail
          refine HN.out.mono ?_
          rintro e w2 ⟨rfl, rfl⟩
          have HW2 := Lib.hid HW.out
          clear yk
          go_wp2_with fail
          refine bodyPost_ret (v := .tuple #[.slice none 0 0, .bool false]) (by simp only [results, Tryz.results125]; go_simp) rfl ?_
          exact ⟨none, 0, 0, by rw [HB.out, HF.out], by rw [HV.out, HF.out]; exact HNil.out _, (fun b off e => by cases e), HBl.out.trans (HW2.out.mono HBl.out.size)⟩
        · have HQ2 := Lib.hid (HTk.out rfl)
          go_wp2_with fail
          refine HN.out.mono ?_
          rintro e w2 ⟨rfl, rfl⟩
          have HW2 := Lib.hid HW.out
          clear yk
          go_wp2_with fail
          go_roundw
          case rel => exact ⟨k + 1, by omega, by go_num, HQ2, HW2⟩
          case measure => simp [intOf]; omega
      · obtain rfl : n = k := by omega
        have d1 : decide ((n : Int) < (n : Int)) = false := decide_eq_false (by omega)
        have HF := Lib.hid (show ps.all nameB = true by
          rw [List.all_eq_true]
          have h := HQ.out
          rwa [List.take_of_length_le (by rw [HL.out]; exact Nat.le_refl _)] at h)
        go_wp2_with fail
        refine bodyPost_ret (v := .tuple #[.slice ao n cap, .bool true]) (by simp only [results, Tryz.results125]; go_simp) rfl ?_
        exact ⟨ao, n, cap, by rw [HB.out, HF.out], by rw [HV.out, if_pos HF.out]; exact HSt.out.below HW.out, HFr.out, HBl.out.trans (HW.out.mono HBl.out.size)⟩
end Go.Proofs.YtmmdaegdkikkpaaGreatDoor
end

section
/-
  Contract of the specification's typeLine. Condition: words of at most 1000000 bytes.
-/
set_option maxRecDepth 100000
namespace Go.Proofs.YtmmdaegdkikkpaaGreatDoor
open Go.RowKit Go.PlainAid
/-- the type of a line's words -/
def tyLn (ps : List ByteArray) : Option Ty := if partAt ps 0 = typeW then rdType ps.tail else none
theorem part_tail (ps : List ByteArray) (k : Nat) : partAt ps.tail k = partAt ps (k + 1) := by
  unfold partAt
  cases ps with
  | nil => rfl
  | cons x l => rfl
theorem syn_at {k : Nat} (h1 : 1 ≤ k) (h5 : k ≤ 5) : rdSyn (synW (k : Int)) = (k : Int) := by
  rcases (show k = 1 ∨ k = 2 ∨ k = 3 ∨ k = 4 ∨ k = 5 by omega) with rfl | rfl | rfl | rfl | rfl <;> decide +kernel
theorem syn_none {s : ByteArray} (h : ∀ q : Nat, 1 ≤ q → q < 6 → s ≠ synW (q : Int)) : rdSyn s = 0 := by
  unfold rdSyn
  rw [if_neg (show s ≠ synW 1 from h 1 (by omega) (by omega)), if_neg (show s ≠ synW 2 from h 2 (by omega) (by omega)), if_neg (show s ≠ synW 3 from h 3 (by omega) (by omega)), if_neg (show s ≠ synW 4 from h 4 (by omega) (by omega)), if_neg (show s ≠ synW 5 from h 5 (by omega) (by omega))]
theorem tyLn_none {ps : List ByteArray} (h : partAt ps 0 ≠ typeW) : tyLn ps = none := if_neg h
theorem tyLn_few {ps : List ByteArray} (h3 : ps.length ≠ 3) (h4 : ps.length ≠ 4) : tyLn ps = none := by
  unfold tyLn rdType
  split
  · rw [if_neg (by rw [List.length_tail]; omega), if_neg (by rw [List.length_tail]; omega)]
  · rfl
theorem tyLn_three {ps : List ByteArray} (h : ps.length = 3) (h0 : partAt ps 0 = typeW) : tyLn ps = rdTy ps.tail false := by
  unfold tyLn rdType
  rw [if_pos h0, if_pos (by rw [List.length_tail]; omega)]
theorem tyLn_four {ps : List ByteArray} (h : ps.length = 4) (h0 : partAt ps 0 = typeW) : tyLn ps = if partAt ps 3 = singleN then rdTy ps.tail true else none := by
  unfold tyLn rdType
  rw [if_pos h0, if_neg (by rw [List.length_tail]; omega), part_tail]
  by_cases h3 : partAt ps 3 = singleN
  · rw [if_pos ⟨by rw [List.length_tail]; omega, h3⟩, if_pos h3]
  · rw [if_neg (fun k => h3 k.2), if_neg h3]
theorem rdTy_at (ps : List ByteArray) (sg : Bool) : rdTy ps.tail sg = if rdOk (partAt ps 2) = true ∧ nameB (partAt ps 1) = true then some ⟨partAt ps 1, rdSyn (partAt ps 2), sg⟩ else none := by
  unfold rdTy
  rw [part_tail, part_tail]
end Go.Proofs.YtmmdaegdkikkpaaGreatDoor
end

section
/-
  Contract of the specification's typeLine. Condition: words of at most 1000000 bytes.
-/
set_option maxRecDepth 100000
namespace Go.Proofs.YtmmdaegdkikkpaaGreatDoor
open Go.RowKit Go.PlainAid
theorem word_ne (s : ByteArray) (l : List UInt8) : (s.toList != l) = !decide (s = ⟨l.toArray⟩) := by unfold bne; rw [word_eq]
set_option maxHeartbeats 16000000 in
theorem typeLine7_s (ao : Option Addr) (n cap : Nat) (ps : List ByteArray) (w : World) (h : StrsAt w ao n cap ps) (hz : ∀ s ∈ ps, s.size ≤ 1000000) :
    Calls Tryz.prog 66 #[.slice ao n cap] w fun e w' => e = .returned (.tuple #[tyV ((tyLn ps).getD zeroTy), .bool (tyLn ps).isSome]) ∧ Below w.heap.size w w' := by
  have HB0 := Lib.hid (rb_new w)
  obtain ⟨hl, hcap, hmx, hcells⟩ := h
  unfold maxLen at hmx
  by_cases h34 : n = 3 ∨ n = 4
  · obtain ⟨b, off, rfl, hb, hc⟩ := hcells (by omega)
    have z0 := hc 0 (by omega)
    have z1 := hc 1 (by omega)
    have z2 := hc 2 (by omega)
    rw [Nat.add_zero] at z0
    have hx1 : (partAt ps 1).size ≤ 1000000000 := Nat.le_trans (hz _ (part_mem ps 1 (by omega))) (by decide)
    have HR := Lib.hid (fun sg => rdTy_at ps sg)
    have w0 := word_eq (partAt ps 0) [116, 121, 112, 101]
    have v0 := word_ne (partAt ps 0) [116, 121, 112, 101]
    have HQ := Lib.hid (Iff.rfl (a := partAt ps 0 = typeW))
    have HT3 := Lib.hid (fun (a : ps.length = 3) (b : partAt ps 0 = typeW) => tyLn_three a b)
    have HT4 := Lib.hid (fun (a : ps.length = 4) (b : partAt ps 0 = typeW) => tyLn_four a b)
    have HTn := Lib.hid (fun (b : partAt ps 0 ≠ typeW) => tyLn_none b)
    have HLn := Lib.hid hl
    rcases h34 with rfl | rfl
    · skip
      obtain ⟨x0, hx0⟩ : ∃ x, partAt ps 0 = x := ⟨_, rfl⟩
      obtain ⟨x1, hx1e⟩ : ∃ x, partAt ps 1 = x := ⟨_, rfl⟩
      obtain ⟨x2, hx2⟩ : ∃ x, partAt ps 2 = x := ⟨_, rfl⟩
      rw [hx0] at z0 w0 v0 HT3 HT4 HTn
      rw [hx1e] at z1 hx1 HR
      rw [hx2] at z2 HR
      clear hx0 hx1e hx2 hc hcells hz HQ
      have HC := Lib.hid (And.intro z0 (And.intro z1 z2))
      have y0 := cell_later HB0.out.low z0
      have y1 := cell_later HB0.out.low z1
      have y2 := cell_later HB0.out.low z2
      clear z0 z1 z2
      have HN := Lib.hid (rName_s x1 (w.alloc (.cells #[.string ⟨#[]⟩, .int .i64 0, .bool false] 62)) hx1)
      go_enter Tryz.func66, Tryz.ntmps66
      by_cases h0 : x0 = typeW
      · rw [show decide (x0 = ⟨([116, 121, 112, 101] : List UInt8).toArray⟩) = true from decide_eq_true h0] at w0 v0
        rw [Bool.not_true] at v0
        have HTy := Lib.hid ((HT3.out HLn.out h0).trans (HR.out false))
        clear h0 HT3 HT4 HTn HR
        obtain ⟨nb, hnb⟩ : ∃ r, nameB x1 = r := ⟨_, rfl⟩
        rw [hnb] at HN HTy
        clear hnb
        go_wp2_with fail
        refine HN.out.mono ?_
        rintro e w2 ⟨rfl, rfl⟩
        cases nb
        · skip
          have HE := Lib.hid (show tyLn ps = none from (HTy.out.trans (if_neg (fun k => by cases k.2))))
          obtain ⟨r0, r1, r2, f0, f1, f2, _, _⟩ := HB0.out
          have HBz := Lib.hid (below_set1 (below_set1 (below_set1 HB0.out.low w.heap.size 0 (Nat.le_refl _) (.string ⟨#[]⟩)) w.heap.size 1 (Nat.le_refl _) (.int .i64 0)) w.heap.size 2 (Nat.le_refl _) (.bool false))
          go_wp2_with fail
          refine bodyPost_ret (v := .tuple #[.agg #[.string ⟨#[]⟩, .int .i64 0, .bool false], .bool false]) (by simp only [results, Tryz.results66]; go_simp) rfl ?_
          first | exact ⟨by rw [HE.out]; rfl, HBz.out⟩ | exact ⟨by rw [HE.out]; rfl, HB0.out.low⟩ | exact ⟨by rw [HE.out]; rfl, HB.out.low⟩
        · skip
          go_wp2_with fail
          clear y0 y1 y2
          have HC1 := Lib.hid (fun (X : World) (h : RB w X) => cell_later h.low HC.out.2.1)
          have HSt := Lib.hid (show ∀ V X : World, RB w V → Below V.heap.size V X → (fun V => V.cell? ⟨b, off + 2, none⟩ = some (.string x2) ∧ Hid (RB w V)) X from fun V X h hb => ⟨cell_later (h.step hb).low HC.out.2.2, Lib.hid (h.step hb)⟩)
          go_loopw [4] (fun x wr => ∃ k : Nat, 1 ≤ k ∧ k ≤ 6 ∧ x = .int .i64 k ∧ Hid (∀ q : Nat, 1 ≤ q → q < k → x2 ≠ synW (q : Int)) ∧ Hid (RB w wr)) (fun x _ => 6 - (intOf x).toNat)
          case atStart => exact ⟨1, Nat.le_refl _, by omega, rfl, Lib.hid (fun q h1 h2 => by omega), HB0⟩
          case round =>
            obtain ⟨k, hk1, hk6, rfl, HQ, HB⟩ := hrel
            by_cases hlt : k ≤ 5
            · have d1 : decide ((k : Int) ≤ (5 : Int)) = true := decide_eq_true (by omega)
              go_wp2_with fail
              have S0 := HSt.out wr _ HB.out (Below.refl _ _).drew
              by_cases hm : x2 = synW (k : Int)
              · have e1 : (x2.toList == (synW (k : Int)).toList) = true := by rw [hm]; simp
                refine wp_region_held_drew (S := fun V => V.cell? ⟨b, off + 2, none⟩ = some (.string x2) ∧ Hid (RB w V)) (by kernel_rfl) (S0) (fun hS => ?_)
                refine wpAnyH_take (i := 0) (oi := { dst := some 37, op := _, type := _, pos := _, after := _, guard := _ }) (v := ?_) rfl (by kernel_rfl) (by kernel_rfl) (by kernel_rfl) (fun _ _ _ h => h) (Or.inl ⟨by rfl, ?_⟩) (by assumption) ?_
                rotate_left
                · intro w hSw
                  try dsimp only at hSw
                  go_simp
                  try with_reducible rfl
                try simp only [Act.put, List.setIfInBounds_toArray, List.set_cons_zero, List.set_cons_succ]
                refine wpAnyH_take (i := 1) (oi := { dst := some 38, op := _, type := _, pos := _, after := _, guard := _ }) (v := ?_) rfl (by kernel_rfl) (by kernel_rfl) (by kernel_rfl) (fun _ _ _ h => h) (Or.inl ⟨by rfl, ?_⟩) (by assumption) ?_
                rotate_left
                · intro w hSw
                  try dsimp only at hSw
                  go_simp
                  try with_reducible rfl
                try simp only [Act.put, List.setIfInBounds_toArray, List.set_cons_zero, List.set_cons_succ]
                refine wpAnyH_take (i := 2) (oi := { dst := some 39, op := _, type := _, pos := _, after := _, guard := _ }) (v := ?_) rfl (by kernel_rfl) (by kernel_rfl) (by kernel_rfl) (fun _ _ _ h => h) (Or.inl ⟨by rfl, ?_⟩) (by assumption) ?_
                rotate_left
                · intro w hSw
                  try dsimp only at hSw
                  go_simp
                  try with_reducible rfl
                try simp only [Act.put, List.setIfInBounds_toArray, List.set_cons_zero, List.set_cons_succ]
                refine wpAnyH_take (i := 3) (oi := { dst := some 40, op := _, type := _, pos := _, after := _, guard := _ }) (v := ?_) rfl (by kernel_rfl) (by kernel_rfl) (by kernel_rfl) (fun _ _ _ h => h) (Or.inl ⟨by rfl, ?_⟩) (by assumption) ?_
                rotate_left
                · intro w hSw
                  try dsimp only at hSw
                  go_simp
                  try with_reducible rfl
                try simp only [Act.put, List.setIfInBounds_toArray, List.set_cons_zero, List.set_cons_succ]
                refine wpAnyH_ready (rs := [4]) (by kernel_rfl) (by simp) ?_
                refine AllReadyH.cons rfl (fun K hK => ?_) AllReadyH.nil
                go_simp
                refine (word7_s (k : Int) _ (by omega) (by omega)).mono ?_
                rintro e w5 ⟨rfl, hb⟩
                have HKp := hS.2.out
                go_wp2_with fail
                refine hK.out _ _ ?_ (fun hHeld => ?_)
                · exact HSt.out _ _ HKp hb
                clear hK K
                try simp only [Act.put, List.setIfInBounds_toArray, List.set_cons_zero, List.set_cons_succ]
                refine wpAnyH_take (i := 5) (oi := { dst := some 42, op := _, type := _, pos := _, after := _, guard := _ }) (v := ?_) rfl (by kernel_rfl) (by kernel_rfl) (by kernel_rfl) (fun _ _ _ h => h) (Or.inl ⟨by rfl, ?_⟩) (by assumption) ?_
                rotate_left
                · intro w hSw
                  try dsimp only at hSw
                  go_simp
                  try with_reducible rfl
                try simp only [Act.put, List.setIfInBounds_toArray, List.set_cons_zero, List.set_cons_succ]
                refine wpAnyH_done (by kernel_rfl) ?_ _
                obtain ⟨y2, HBn⟩ := hHeld
                have HE := Lib.hid (show tyLn ps = some ⟨x1, (k : Int), false⟩ from HTy.out.trans (by
                  have e : rdSyn x2 = (k : Int) := by rw [hm]; exact syn_at hk1 hlt
                  have e2 : rdOk x2 = true := by unfold rdOk; rw [e]; exact decide_eq_true (by omega)
                  rw [if_pos ⟨e2, by first | rfl | trivial⟩, e]))
                clear hm
                have y1 := HC1.out _ HBn.out
                obtain ⟨r0, r1, r2, f0, f1, f2, _, _⟩ := HBn.out
                have HBz := Lib.hid (below_set1 (below_set1 (below_set1 HBn.out.low w.heap.size 0 (Nat.le_refl _) (.string x1)) w.heap.size 1 (Nat.le_refl _) (.int .i64 (k : Int))) w.heap.size 2 (Nat.le_refl _) (.bool false))
                go_wp2_with fail
                refine bodyPost_ret (v := .tuple #[.agg #[.string x1, .int .i64 (k : Int), .bool false], .bool true]) (by simp only [results, Tryz.results66]; go_simp) rfl ?_
                first | exact ⟨by rw [HE.out]; rfl, HBz.out⟩ | exact ⟨by rw [HE.out]; rfl, HB0.out.low⟩ | exact ⟨by rw [HE.out]; rfl, HB.out.low⟩
              · have e1 := beq_bytes hm
                refine wp_region_held_drew (S := fun V => V.cell? ⟨b, off + 2, none⟩ = some (.string x2) ∧ Hid (RB w V)) (by kernel_rfl) (S0) (fun hS => ?_)
                refine wpAnyH_take (i := 0) (oi := { dst := some 37, op := _, type := _, pos := _, after := _, guard := _ }) (v := ?_) rfl (by kernel_rfl) (by kernel_rfl) (by kernel_rfl) (fun _ _ _ h => h) (Or.inl ⟨by rfl, ?_⟩) (by assumption) ?_
                rotate_left
                · intro w hSw
                  try dsimp only at hSw
                  go_simp
                  try with_reducible rfl
                try simp only [Act.put, List.setIfInBounds_toArray, List.set_cons_zero, List.set_cons_succ]
                refine wpAnyH_take (i := 1) (oi := { dst := some 38, op := _, type := _, pos := _, after := _, guard := _ }) (v := ?_) rfl (by kernel_rfl) (by kernel_rfl) (by kernel_rfl) (fun _ _ _ h => h) (Or.inl ⟨by rfl, ?_⟩) (by assumption) ?_
                rotate_left
                · intro w hSw
                  try dsimp only at hSw
                  go_simp
                  try with_reducible rfl
                try simp only [Act.put, List.setIfInBounds_toArray, List.set_cons_zero, List.set_cons_succ]
                refine wpAnyH_take (i := 2) (oi := { dst := some 39, op := _, type := _, pos := _, after := _, guard := _ }) (v := ?_) rfl (by kernel_rfl) (by kernel_rfl) (by kernel_rfl) (fun _ _ _ h => h) (Or.inl ⟨by rfl, ?_⟩) (by assumption) ?_
                rotate_left
                · intro w hSw
                  try dsimp only at hSw
                  go_simp
                  try with_reducible rfl
                try simp only [Act.put, List.setIfInBounds_toArray, List.set_cons_zero, List.set_cons_succ]
                refine wpAnyH_take (i := 3) (oi := { dst := some 40, op := _, type := _, pos := _, after := _, guard := _ }) (v := ?_) rfl (by kernel_rfl) (by kernel_rfl) (by kernel_rfl) (fun _ _ _ h => h) (Or.inl ⟨by rfl, ?_⟩) (by assumption) ?_
                rotate_left
                · intro w hSw
                  try dsimp only at hSw
                  go_simp
                  try with_reducible rfl
                try simp only [Act.put, List.setIfInBounds_toArray, List.set_cons_zero, List.set_cons_succ]
                refine wpAnyH_ready (rs := [4]) (by kernel_rfl) (by simp) ?_
                refine AllReadyH.cons rfl (fun K hK => ?_) AllReadyH.nil
                go_simp
                refine (word7_s (k : Int) _ (by omega) (by omega)).mono ?_
                rintro e w5 ⟨rfl, hb⟩
                have HKp := hS.2.out
                go_wp2_with fail
                refine hK.out _ _ ?_ (fun hHeld => ?_)
                · exact HSt.out _ _ HKp hb
                clear hK K
                try simp only [Act.put, List.setIfInBounds_toArray, List.set_cons_zero, List.set_cons_succ]
                refine wpAnyH_take (i := 5) (oi := { dst := some 42, op := _, type := _, pos := _, after := _, guard := _ }) (v := ?_) rfl (by kernel_rfl) (by kernel_rfl) (by kernel_rfl) (fun _ _ _ h => h) (Or.inl ⟨by rfl, ?_⟩) (by assumption) ?_
                rotate_left
                · intro w hSw
                  try dsimp only at hSw
                  go_simp
                  try with_reducible rfl
                try simp only [Act.put, List.setIfInBounds_toArray, List.set_cons_zero, List.set_cons_succ]
                refine wpAnyH_done (by kernel_rfl) ?_ _
                obtain ⟨y2, HBn⟩ := hHeld
                have HQ2 := Lib.hid (show ∀ q : Nat, 1 ≤ q → q < k + 1 → x2 ≠ synW (q : Int) from fun q h1 h2 => by
                  by_cases e : q = k
                  · rw [e]; exact hm
                  · exact HQ.out q h1 (by omega))
                clear hm
                go_wp2_with fail
                go_roundw
                case rel => exact ⟨k + 1, by omega, by omega, by go_num, HQ2, HBn⟩
                case measure => simp [intOf]; omega
            · obtain rfl : k = 6 := by omega
              skip
              have HE := Lib.hid (show tyLn ps = none from (HTy.out.trans (if_neg (fun k => by have e := syn_none HQ.out; have h := k.1; unfold rdOk at h; rw [e] at h; simp at h))))
              obtain ⟨r0, r1, r2, f0, f1, f2, _, _⟩ := HB.out
              have HBz := Lib.hid (below_set1 (below_set1 (below_set1 HB.out.low w.heap.size 0 (Nat.le_refl _) (.string ⟨#[]⟩)) w.heap.size 1 (Nat.le_refl _) (.int .i64 0)) w.heap.size 2 (Nat.le_refl _) (.bool false))
              go_wp2_with fail
              refine bodyPost_ret (v := .tuple #[.agg #[.string ⟨#[]⟩, .int .i64 0, .bool false], .bool false]) (by simp only [results, Tryz.results66]; go_simp) rfl ?_
              first | exact ⟨by rw [HE.out]; rfl, HBz.out⟩ | exact ⟨by rw [HE.out]; rfl, HB0.out.low⟩ | exact ⟨by rw [HE.out]; rfl, HB.out.low⟩
      · rw [show decide (x0 = ⟨([116, 121, 112, 101] : List UInt8).toArray⟩) = false from decide_eq_false h0] at w0 v0
        rw [Bool.not_false] at v0
        have HE := Lib.hid (show tyLn ps = none from (HTn.out h0))
        obtain ⟨r0, r1, r2, f0, f1, f2, _, _⟩ := HB0.out
        have HBz := Lib.hid (below_set1 (below_set1 (below_set1 HB0.out.low w.heap.size 0 (Nat.le_refl _) (.string ⟨#[]⟩)) w.heap.size 1 (Nat.le_refl _) (.int .i64 0)) w.heap.size 2 (Nat.le_refl _) (.bool false))
        go_wp2_with fail
        refine bodyPost_ret (v := .tuple #[.agg #[.string ⟨#[]⟩, .int .i64 0, .bool false], .bool false]) (by simp only [results, Tryz.results66]; go_simp) rfl ?_
        first | exact ⟨by rw [HE.out]; rfl, HBz.out⟩ | exact ⟨by rw [HE.out]; rfl, HB0.out.low⟩ | exact ⟨by rw [HE.out]; rfl, HB.out.low⟩
    · skip
      have z3 := hc 3 (by omega)
      have w3 := single_eq (partAt ps 3)
      have v3 : ((partAt ps 3).toList != ([115, 105, 110, 103, 108, 101] : List UInt8)) = !decide (partAt ps 3 = singleN) := by unfold bne; rw [w3]
      obtain ⟨x3, hx3⟩ : ∃ x, partAt ps 3 = x := ⟨_, rfl⟩
      rw [hx3] at z3 w3 v3 HT4
      clear hx3
      obtain ⟨x0, hx0⟩ : ∃ x, partAt ps 0 = x := ⟨_, rfl⟩
      obtain ⟨x1, hx1e⟩ : ∃ x, partAt ps 1 = x := ⟨_, rfl⟩
      obtain ⟨x2, hx2⟩ : ∃ x, partAt ps 2 = x := ⟨_, rfl⟩
      rw [hx0] at z0 w0 v0 HT3 HT4 HTn
      rw [hx1e] at z1 hx1 HR
      rw [hx2] at z2 HR
      clear hx0 hx1e hx2 hc hcells hz HQ
      have HC := Lib.hid (And.intro z0 (And.intro z1 z2))
      have y0 := cell_later HB0.out.low z0
      have y1 := cell_later HB0.out.low z1
      have y2 := cell_later HB0.out.low z2
      have y3 := cell_later HB0.out.low z3
      clear z3
      clear z0 z1 z2
      have HN := Lib.hid (rName_s x1 (w.alloc (.cells #[.string ⟨#[]⟩, .int .i64 0, .bool false] 62)) hx1)
      go_enter Tryz.func66, Tryz.ntmps66
      by_cases h3 : x3 = singleN
      · rw [decide_eq_true h3] at w3 v3
        rw [Bool.not_true] at v3
        by_cases h0 : x0 = typeW
        · rw [show decide (x0 = ⟨([116, 121, 112, 101] : List UInt8).toArray⟩) = true from decide_eq_true h0] at w0 v0
          rw [Bool.not_true] at v0
          have HTy := Lib.hid ((HT4.out HLn.out h0).trans ((if_pos h3).trans (HR.out true)))
          clear h0 HT3 HT4 HTn HR h3
          obtain ⟨nb, hnb⟩ : ∃ r, nameB x1 = r := ⟨_, rfl⟩
          rw [hnb] at HN HTy
          clear hnb
          go_wp2_with fail
          refine HN.out.mono ?_
          rintro e w2 ⟨rfl, rfl⟩
          cases nb
          · skip
            have HE := Lib.hid (show tyLn ps = none from (HTy.out.trans (if_neg (fun k => by cases k.2))))
            obtain ⟨r0, r1, r2, f0, f1, f2, _, _⟩ := HB0.out
            have HBz := Lib.hid (below_set1 (below_set1 (below_set1 HB0.out.low w.heap.size 0 (Nat.le_refl _) (.string ⟨#[]⟩)) w.heap.size 1 (Nat.le_refl _) (.int .i64 0)) w.heap.size 2 (Nat.le_refl _) (.bool false))
            go_wp2_with fail
            refine bodyPost_ret (v := .tuple #[.agg #[.string ⟨#[]⟩, .int .i64 0, .bool false], .bool false]) (by simp only [results, Tryz.results66]; go_simp) rfl ?_
            first | exact ⟨by rw [HE.out]; rfl, HBz.out⟩ | exact ⟨by rw [HE.out]; rfl, HB0.out.low⟩ | exact ⟨by rw [HE.out]; rfl, HB.out.low⟩
          · skip
            go_wp2_with fail
            clear y0 y1 y2 y3
            have HC1 := Lib.hid (fun (X : World) (h : RB w X) => cell_later h.low HC.out.2.1)
            have HSt := Lib.hid (show ∀ V X : World, RB w V → Below V.heap.size V X → (fun V => V.cell? ⟨b, off + 2, none⟩ = some (.string x2) ∧ Hid (RB w V)) X from fun V X h hb => ⟨cell_later (h.step hb).low HC.out.2.2, Lib.hid (h.step hb)⟩)
            go_loopw [4] (fun x wr => ∃ k : Nat, 1 ≤ k ∧ k ≤ 6 ∧ x = .int .i64 k ∧ Hid (∀ q : Nat, 1 ≤ q → q < k → x2 ≠ synW (q : Int)) ∧ Hid (RB w wr)) (fun x _ => 6 - (intOf x).toNat)
            case atStart => exact ⟨1, Nat.le_refl _, by omega, rfl, Lib.hid (fun q h1 h2 => by omega), HB0⟩
            case round =>
              obtain ⟨k, hk1, hk6, rfl, HQ, HB⟩ := hrel
              by_cases hlt : k ≤ 5
              · have d1 : decide ((k : Int) ≤ (5 : Int)) = true := decide_eq_true (by omega)
                go_wp2_with fail
                have S0 := HSt.out wr _ HB.out (Below.refl _ _).drew
                by_cases hm : x2 = synW (k : Int)
                · have e1 : (x2.toList == (synW (k : Int)).toList) = true := by rw [hm]; simp
                  refine wp_region_held_drew (S := fun V => V.cell? ⟨b, off + 2, none⟩ = some (.string x2) ∧ Hid (RB w V)) (by kernel_rfl) (S0) (fun hS => ?_)
                  refine wpAnyH_take (i := 0) (oi := { dst := some 37, op := _, type := _, pos := _, after := _, guard := _ }) (v := ?_) rfl (by kernel_rfl) (by kernel_rfl) (by kernel_rfl) (fun _ _ _ h => h) (Or.inl ⟨by rfl, ?_⟩) (by assumption) ?_
                  rotate_left
                  · intro w hSw
                    try dsimp only at hSw
                    go_simp
                    try with_reducible rfl
                  try simp only [Act.put, List.setIfInBounds_toArray, List.set_cons_zero, List.set_cons_succ]
                  refine wpAnyH_take (i := 1) (oi := { dst := some 38, op := _, type := _, pos := _, after := _, guard := _ }) (v := ?_) rfl (by kernel_rfl) (by kernel_rfl) (by kernel_rfl) (fun _ _ _ h => h) (Or.inl ⟨by rfl, ?_⟩) (by assumption) ?_
                  rotate_left
                  · intro w hSw
                    try dsimp only at hSw
                    go_simp
                    try with_reducible rfl
                  try simp only [Act.put, List.setIfInBounds_toArray, List.set_cons_zero, List.set_cons_succ]
                  refine wpAnyH_take (i := 2) (oi := { dst := some 39, op := _, type := _, pos := _, after := _, guard := _ }) (v := ?_) rfl (by kernel_rfl) (by kernel_rfl) (by kernel_rfl) (fun _ _ _ h => h) (Or.inl ⟨by rfl, ?_⟩) (by assumption) ?_
                  rotate_left
                  · intro w hSw
                    try dsimp only at hSw
                    go_simp
                    try with_reducible rfl
                  try simp only [Act.put, List.setIfInBounds_toArray, List.set_cons_zero, List.set_cons_succ]
                  refine wpAnyH_take (i := 3) (oi := { dst := some 40, op := _, type := _, pos := _, after := _, guard := _ }) (v := ?_) rfl (by kernel_rfl) (by kernel_rfl) (by kernel_rfl) (fun _ _ _ h => h) (Or.inl ⟨by rfl, ?_⟩) (by assumption) ?_
                  rotate_left
                  · intro w hSw
                    try dsimp only at hSw
                    go_simp
                    try with_reducible rfl
                  try simp only [Act.put, List.setIfInBounds_toArray, List.set_cons_zero, List.set_cons_succ]
                  refine wpAnyH_ready (rs := [4]) (by kernel_rfl) (by simp) ?_
                  refine AllReadyH.cons rfl (fun K hK => ?_) AllReadyH.nil
                  go_simp
                  refine (word7_s (k : Int) _ (by omega) (by omega)).mono ?_
                  rintro e w5 ⟨rfl, hb⟩
                  have HKp := hS.2.out
                  go_wp2_with fail
                  refine hK.out _ _ ?_ (fun hHeld => ?_)
                  · exact HSt.out _ _ HKp hb
                  clear hK K
                  try simp only [Act.put, List.setIfInBounds_toArray, List.set_cons_zero, List.set_cons_succ]
                  refine wpAnyH_take (i := 5) (oi := { dst := some 42, op := _, type := _, pos := _, after := _, guard := _ }) (v := ?_) rfl (by kernel_rfl) (by kernel_rfl) (by kernel_rfl) (fun _ _ _ h => h) (Or.inl ⟨by rfl, ?_⟩) (by assumption) ?_
                  rotate_left
                  · intro w hSw
                    try dsimp only at hSw
                    go_simp
                    try with_reducible rfl
                  try simp only [Act.put, List.setIfInBounds_toArray, List.set_cons_zero, List.set_cons_succ]
                  refine wpAnyH_done (by kernel_rfl) ?_ _
                  obtain ⟨y2, HBn⟩ := hHeld
                  have HE := Lib.hid (show tyLn ps = some ⟨x1, (k : Int), true⟩ from HTy.out.trans (by
                    have e : rdSyn x2 = (k : Int) := by rw [hm]; exact syn_at hk1 hlt
                    have e2 : rdOk x2 = true := by unfold rdOk; rw [e]; exact decide_eq_true (by omega)
                    rw [if_pos ⟨e2, by first | rfl | trivial⟩, e]))
                  clear hm
                  have y1 := HC1.out _ HBn.out
                  obtain ⟨r0, r1, r2, f0, f1, f2, _, _⟩ := HBn.out
                  have HBz := Lib.hid (below_set1 (below_set1 (below_set1 HBn.out.low w.heap.size 0 (Nat.le_refl _) (.string x1)) w.heap.size 1 (Nat.le_refl _) (.int .i64 (k : Int))) w.heap.size 2 (Nat.le_refl _) (.bool true))
                  go_wp2_with fail
                  refine bodyPost_ret (v := .tuple #[.agg #[.string x1, .int .i64 (k : Int), .bool true], .bool true]) (by simp only [results, Tryz.results66]; go_simp) rfl ?_
                  first | exact ⟨by rw [HE.out]; rfl, HBz.out⟩ | exact ⟨by rw [HE.out]; rfl, HB0.out.low⟩ | exact ⟨by rw [HE.out]; rfl, HB.out.low⟩
                · have e1 := beq_bytes hm
                  refine wp_region_held_drew (S := fun V => V.cell? ⟨b, off + 2, none⟩ = some (.string x2) ∧ Hid (RB w V)) (by kernel_rfl) (S0) (fun hS => ?_)
                  refine wpAnyH_take (i := 0) (oi := { dst := some 37, op := _, type := _, pos := _, after := _, guard := _ }) (v := ?_) rfl (by kernel_rfl) (by kernel_rfl) (by kernel_rfl) (fun _ _ _ h => h) (Or.inl ⟨by rfl, ?_⟩) (by assumption) ?_
                  rotate_left
                  · intro w hSw
                    try dsimp only at hSw
                    go_simp
                    try with_reducible rfl
                  try simp only [Act.put, List.setIfInBounds_toArray, List.set_cons_zero, List.set_cons_succ]
                  refine wpAnyH_take (i := 1) (oi := { dst := some 38, op := _, type := _, pos := _, after := _, guard := _ }) (v := ?_) rfl (by kernel_rfl) (by kernel_rfl) (by kernel_rfl) (fun _ _ _ h => h) (Or.inl ⟨by rfl, ?_⟩) (by assumption) ?_
                  rotate_left
                  · intro w hSw
                    try dsimp only at hSw
                    go_simp
                    try with_reducible rfl
                  try simp only [Act.put, List.setIfInBounds_toArray, List.set_cons_zero, List.set_cons_succ]
                  refine wpAnyH_take (i := 2) (oi := { dst := some 39, op := _, type := _, pos := _, after := _, guard := _ }) (v := ?_) rfl (by kernel_rfl) (by kernel_rfl) (by kernel_rfl) (fun _ _ _ h => h) (Or.inl ⟨by rfl, ?_⟩) (by assumption) ?_
                  rotate_left
                  · intro w hSw
                    try dsimp only at hSw
                    go_simp
                    try with_reducible rfl
                  try simp only [Act.put, List.setIfInBounds_toArray, List.set_cons_zero, List.set_cons_succ]
                  refine wpAnyH_take (i := 3) (oi := { dst := some 40, op := _, type := _, pos := _, after := _, guard := _ }) (v := ?_) rfl (by kernel_rfl) (by kernel_rfl) (by kernel_rfl) (fun _ _ _ h => h) (Or.inl ⟨by rfl, ?_⟩) (by assumption) ?_
                  rotate_left
                  · intro w hSw
                    try dsimp only at hSw
                    go_simp
                    try with_reducible rfl
                  try simp only [Act.put, List.setIfInBounds_toArray, List.set_cons_zero, List.set_cons_succ]
                  refine wpAnyH_ready (rs := [4]) (by kernel_rfl) (by simp) ?_
                  refine AllReadyH.cons rfl (fun K hK => ?_) AllReadyH.nil
                  go_simp
                  refine (word7_s (k : Int) _ (by omega) (by omega)).mono ?_
                  rintro e w5 ⟨rfl, hb⟩
                  have HKp := hS.2.out
                  go_wp2_with fail
                  refine hK.out _ _ ?_ (fun hHeld => ?_)
                  · exact HSt.out _ _ HKp hb
                  clear hK K
                  try simp only [Act.put, List.setIfInBounds_toArray, List.set_cons_zero, List.set_cons_succ]
                  refine wpAnyH_take (i := 5) (oi := { dst := some 42, op := _, type := _, pos := _, after := _, guard := _ }) (v := ?_) rfl (by kernel_rfl) (by kernel_rfl) (by kernel_rfl) (fun _ _ _ h => h) (Or.inl ⟨by rfl, ?_⟩) (by assumption) ?_
                  rotate_left
                  · intro w hSw
                    try dsimp only at hSw
                    go_simp
                    try with_reducible rfl
                  try simp only [Act.put, List.setIfInBounds_toArray, List.set_cons_zero, List.set_cons_succ]
                  refine wpAnyH_done (by kernel_rfl) ?_ _
                  obtain ⟨y2, HBn⟩ := hHeld
                  have HQ2 := Lib.hid (show ∀ q : Nat, 1 ≤ q → q < k + 1 → x2 ≠ synW (q : Int) from fun q h1 h2 => by
                    by_cases e : q = k
                    · rw [e]; exact hm
                    · exact HQ.out q h1 (by omega))
                  clear hm
                  go_wp2_with fail
                  go_roundw
                  case rel => exact ⟨k + 1, by omega, by omega, by go_num, HQ2, HBn⟩
                  case measure => simp [intOf]; omega
              · obtain rfl : k = 6 := by omega
                skip
                have HE := Lib.hid (show tyLn ps = none from (HTy.out.trans (if_neg (fun k => by have e := syn_none HQ.out; have h := k.1; unfold rdOk at h; rw [e] at h; simp at h))))
                obtain ⟨r0, r1, r2, f0, f1, f2, _, _⟩ := HB.out
                have HBz := Lib.hid (below_set1 (below_set1 (below_set1 HB.out.low w.heap.size 0 (Nat.le_refl _) (.string ⟨#[]⟩)) w.heap.size 1 (Nat.le_refl _) (.int .i64 0)) w.heap.size 2 (Nat.le_refl _) (.bool false))
                go_wp2_with fail
                refine bodyPost_ret (v := .tuple #[.agg #[.string ⟨#[]⟩, .int .i64 0, .bool false], .bool false]) (by simp only [results, Tryz.results66]; go_simp) rfl ?_
                first | exact ⟨by rw [HE.out]; rfl, HBz.out⟩ | exact ⟨by rw [HE.out]; rfl, HB0.out.low⟩ | exact ⟨by rw [HE.out]; rfl, HB.out.low⟩
        · rw [show decide (x0 = ⟨([116, 121, 112, 101] : List UInt8).toArray⟩) = false from decide_eq_false h0] at w0 v0
          clear h3
          rw [Bool.not_false] at v0
          have HE := Lib.hid (show tyLn ps = none from (HTn.out h0))
          obtain ⟨r0, r1, r2, f0, f1, f2, _, _⟩ := HB0.out
          have HBz := Lib.hid (below_set1 (below_set1 (below_set1 HB0.out.low w.heap.size 0 (Nat.le_refl _) (.string ⟨#[]⟩)) w.heap.size 1 (Nat.le_refl _) (.int .i64 0)) w.heap.size 2 (Nat.le_refl _) (.bool false))
          go_wp2_with fail
          refine bodyPost_ret (v := .tuple #[.agg #[.string ⟨#[]⟩, .int .i64 0, .bool false], .bool false]) (by simp only [results, Tryz.results66]; go_simp) rfl ?_
          first | exact ⟨by rw [HE.out]; rfl, HBz.out⟩ | exact ⟨by rw [HE.out]; rfl, HB0.out.low⟩ | exact ⟨by rw [HE.out]; rfl, HB.out.low⟩
      · rw [decide_eq_false h3] at w3 v3
        rw [Bool.not_false] at v3
        have HEn := Lib.hid (show tyLn ps = none from by
          by_cases h0 : x0 = typeW
          · exact (HT4.out HLn.out h0).trans (if_neg h3)
          · exact HTn.out h0)
        have HE := Lib.hid (show tyLn ps = none from HEn.out)
        obtain ⟨r0, r1, r2, f0, f1, f2, _, _⟩ := HB0.out
        have HBz := Lib.hid (below_set1 (below_set1 (below_set1 HB0.out.low w.heap.size 0 (Nat.le_refl _) (.string ⟨#[]⟩)) w.heap.size 1 (Nat.le_refl _) (.int .i64 0)) w.heap.size 2 (Nat.le_refl _) (.bool false))
        go_wp2_with fail
        refine bodyPost_ret (v := .tuple #[.agg #[.string ⟨#[]⟩, .int .i64 0, .bool false], .bool false]) (by simp only [results, Tryz.results66]; go_simp) rfl ?_
        first | exact ⟨by rw [HE.out]; rfl, HBz.out⟩ | exact ⟨by rw [HE.out]; rfl, HB0.out.low⟩ | exact ⟨by rw [HE.out]; rfl, HB.out.low⟩
  · have e1 : ((n : Int) != 3) = true := by simp; omega
    have e2 : ((n : Int) != 4) = true := by simp; omega
    go_enter Tryz.func66, Tryz.ntmps66
    have HE := Lib.hid (show tyLn ps = none from (tyLn_few (by omega) (by omega)))
    obtain ⟨r0, r1, r2, f0, f1, f2, _, _⟩ := HB0.out
    have HBz := Lib.hid (below_set1 (below_set1 (below_set1 HB0.out.low w.heap.size 0 (Nat.le_refl _) (.string ⟨#[]⟩)) w.heap.size 1 (Nat.le_refl _) (.int .i64 0)) w.heap.size 2 (Nat.le_refl _) (.bool false))
    go_wp2_with fail
    refine bodyPost_ret (v := .tuple #[.agg #[.string ⟨#[]⟩, .int .i64 0, .bool false], .bool false]) (by simp only [results, Tryz.results66]; go_simp) rfl ?_
    first | exact ⟨by rw [HE.out]; rfl, HBz.out⟩ | exact ⟨by rw [HE.out]; rfl, HB0.out.low⟩ | exact ⟨by rw [HE.out]; rfl, HB.out.low⟩
end Go.Proofs.YtmmdaegdkikkpaaGreatDoor
end
