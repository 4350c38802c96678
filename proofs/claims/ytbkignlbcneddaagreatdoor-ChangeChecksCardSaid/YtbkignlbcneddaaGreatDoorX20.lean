/-
  Texts of the schema layer and of those beneath it, joined: ChgTy, ChgWd, ChgR0. Conditions stand at each contract.
-/
import Derived.Test.YtbkignlbcneddaaGreatDoorX08
import Derived.Test.YtbkignlbcneddaaGreatDoorX18
import Derived.Test.YtbkignlbcneddaaGreatDoorX19
set_option linter.unusedVariables false
set_option linter.unusedSimpArgs false
set_option linter.unnecessarySimpa false

section
/-
  Contract of the reference's Text. Condition: records with strings of at most 1000000 bytes.
-/
set_option maxRecDepth 100000
namespace Go.Proofs.YtbkignlbcneddaaGreatDoor
open Go.RowKit Go.PlainAid
open Csn (Cn cnV cnB KbC kbc_new box_below box_lt parEC parVC vldC fmtS TzOk)
theorem rlinek (g : Chg) (s : ByteArray) (c : Int) (w : World) (hz : SmG g) (ho : MaxOk w) (hs : lnV g = s) (hc : chkG g = c) :
    Calls Tryz.prog 14 #[chV g] w fun e w' => e = .returned (.tuple #[.string s, .int .i64 c]) ∧ Below w.heap.size w w' := by subst hs hc; exact rline_s g w hz ho
/-- what the loop keeps -/
structure RxI (w : World) (l : List Chg) (i : Nat) (t : ByteArray) (W : World) : Prop where
  low : Below w.heap.size w W
  txt : t.data.toList = linesG (l.take i)
  first : firstG (l.take i) = 0
set_option maxHeartbeats 16000000 in
theorem rchtext_s (ao : Option Addr) (n cap : Nat) (l : List Chg) (w : World) (h : ChsAt w ao n cap l) (hz : ∀ g ∈ l, SmG g) (ho : MaxOk w) :
    Calls Tryz.prog 20 #[.slice ao n cap] w fun e w' => e = .returned (.tuple #[.string (txV l), .int .i64 (txE l)]) ∧ Below w.heap.size w w' := by
  have HL := Lib.hid h
  have HZ := Lib.hid hz
  have HO := Lib.hid ho
  have HN := Lib.hid h.1
  clear h hz ho
  by_cases hbig : 4096 < n
  · have d1 : (4096 : Int) < (n : Int) := by omega
    have HE := Lib.hid (show txE l = 3 from by unfold txE; rw [HN.out]; exact if_pos hbig)
    have HV := Lib.hid (show txV l = nilS from by unfold txV; rw [HE.out]; rfl)
    go_enter Tryz.func20, Tryz.ntmps20
    go_wp2_with fail
    go_ret2
    exact ⟨by rw [HE.out, HV.out]; rfl, Below.refl _ _⟩
  · have d1 : ¬ (4096 : Int) < (n : Int) := by omega
    have HS := Lib.hid (Nat.le_of_not_lt hbig)
    have HI := Lib.hid (show RxI w l 0 ⟨#[]⟩ w from ⟨Below.refl _ _, rfl, rfl⟩)
    go_enter Tryz.func20, Tryz.ntmps20
    go_wp2_with fail
    go_loopw [4, 5, 6, 7] (fun tv iv _ _ wr => ∃ (i : Nat) (t : ByteArray), i ≤ n ∧ tv = .string t ∧ iv = .int .i64 i ∧ Hid (RxI w l i t wr)) (fun _ iv _ _ _ => n - (intOf iv).toNat)
    case atStart => exact ⟨0, ⟨#[]⟩, Nat.zero_le _, rfl, rfl, HI⟩
    case round =>
      clear HI
      obtain ⟨i, acc, hi, rfl, rfl, HI⟩ := hrel
      by_cases hlt : i < n
      · have e1 : (i : Int) < (n : Int) := by omega
        obtain ⟨b, off, hao, hcs⟩ := HL.out.2.2.2.1 (by omega)
        subst hao
        have HC := Lib.hid (show ∀ V, Below w.heap.size w V → At8 V b (off + i * 8) (gA l i) from fun V hV => by
          obtain ⟨b', o', e', hc⟩ := (HL.out.below hV).2.2.2.1 (by omega)
          cases e'
          exact hc.at8 (by rw [HN.out]; exact hlt))
        obtain ⟨g, hg⟩ : ∃ x, gA l i = x := ⟨_, rfl⟩
        have HSm := Lib.hid (show SmG g from by rw [← hg]; exact HZ.out _ (g_mem (by rw [HN.out]; exact hlt)))
        rw [hg] at HC
        have HG := Lib.hid hg
        clear hg hcs
        obtain ⟨ln, hln⟩ : ∃ x, lnV g = x := ⟨_, rfl⟩
        obtain ⟨c, hc⟩ : ∃ x, chkG g = x := ⟨_, rfl⟩
        have HW := Lib.hid (fun V (hV : MaxOk V) => rlinek g ln c V HSm.out hV hln hc)
        have HLc := Lib.hid (And.intro hln hc)
        clear hln hc
        obtain ⟨⟨t, s, r⟩, o, id, nm, a, v⟩ := g
        rw [chV_is] at HW
        obtain ⟨c0, c1, c2, c3, c4, c5, c6, c7⟩ := HC.out _ HI.out.low
        dsimp only at c0 c1 c2 c3 c4 c5 c6 c7
        go_wp2_with fail
        clear c0 c1 c2 c3 c4 c5 c6 c7
        refine (HW.out _ (HO.out.far HI.out.low)).mono ?_
        rintro e v1 ⟨rfl, hb⟩
        have HB2 := Lib.hid (HI.out.low.trans (hb.mono HI.out.low.size))
        clear hb
        by_cases h0 : c = 0
        · have q0 : (c != 0) = false := by rw [h0]; rfl
          have HLn := Lib.hid (show ln = lineG ⟨(t, s, r), o, id, nm, a, v⟩ from by rw [← HLc.out.1]; exact if_pos (HLc.out.2.trans h0))
          have HF := Lib.hid (first_more (l := l) (i := i) (by rw [HN.out]; exact hlt) HI.out.first (by rw [HG.out]; exact HLc.out.2.trans h0))
          have HM := Lib.hid (lines_more (l := l) (i := i) (by rw [HN.out]; exact hlt))
          have hz1 : ln.size ≤ 20000000 := by rw [HLn.out]; exact line_size HSm.out
          have hz2 : acc.size ≤ 4096 * 20000001 := by
            have h1 := lines_size (l := l.take i) fun x hx => HZ.out x (List.mem_of_mem_take hx)
            have h2 : (l.take i).length ≤ 4096 := by rw [List.length_take, HN.out]; have := HS.out; omega
            rw [← HI.out.txt, show acc.data.toList.length = acc.size from Array.length_toList] at h1
            exact Nat.le_trans h1 (Nat.mul_le_mul_right 20000001 h2)
          have zq1 : ¬ 9223372036854775807 < acc.size + ln.size := by omega
          have zq2 : ¬ 9223372036854775807 < acc.size + ln.size + 1 := by omega
          clear h0
          go_wp2_with fail
          go_roundw
          case rel => exact ⟨i + 1, _, by omega, by go_num, by go_num, Lib.hid ⟨HB2.out, by rw [HM.out, HG.out, ← HLn.out, ← HI.out.txt]; simp only [app_list, List.append_assoc], HF.out⟩⟩
          case measure => simp [intOf]; omega
        · have q0 : (c != 0) = true := by simpa using h0
          have HE := Lib.hid (show firstG l = c from by rw [first_take (l := l) (i := i) (by rw [HN.out]; exact hlt) HI.out.first (by rw [HG.out, HLc.out.2]; exact h0), HG.out, HLc.out.2])
          have HT := Lib.hid (show txE l = c from by unfold txE; rw [HN.out, if_neg (Nat.not_lt.2 HS.out)]; exact HE.out)
          have HV := Lib.hid (show txV l = nilS from by unfold txV; rw [if_neg (by rw [HT.out]; exact h0)])
          clear h0
          go_wp2_with fail
          go_ret2
          exact ⟨by rw [HT.out, HV.out]; rfl, HB2.out⟩
      · have e1 : ¬ (i : Int) < (n : Int) := by omega
        obtain rfl : i = n := by omega
        have HF := Lib.hid (show firstG l = 0 from by have := HI.out.first; rw [List.take_of_length_le (by rw [HN.out]; exact Nat.le_refl _)] at this; exact this)
        have HT := Lib.hid (show txE l = 0 from by unfold txE; rw [HN.out, if_neg (Nat.not_lt.2 HS.out)]; exact HF.out)
        have HB := Lib.hid (show acc.data.toList = linesG l from by have := HI.out.txt; rw [List.take_of_length_le (by rw [HN.out]; exact Nat.le_refl _)] at this; exact this)
        have HV := Lib.hid (show txV l = acc from by unfold txV; rw [if_pos HT.out, ← HB.out])
        go_wp2_with fail
        go_ret2
        exact ⟨by rw [HT.out, HV.out]; rfl, HI.out.low⟩
end Go.Proofs.YtbkignlbcneddaaGreatDoor
end

section
/-
  Contract of the specification's words of a line. Condition: at most 1100000 bytes.
-/
set_option maxRecDepth 100000
namespace Go.Proofs.YtbkignlbcneddaaGreatDoor
open Go.RowKit Go.PlainAid
theorem extract_ofL (s : ByteArray) (i j : Nat) (h : j ≤ s.size) : s.extract i j = ofL ((s.data.toList.drop i).take (j - i)) := by
  have h1 := Lib.extract_toList s i j
  rw [← Lib.mk_data (s.extract i j), ← Lib.toList_data, h1]
  rfl
theorem pieces_step (s : ByteArray) (b : UInt8) (f i : Nat) (hf : f ≤ i) (hi : i < s.size) (hb : chr s i = b) (hn : ∀ j, f ≤ j → j < i → chr s j ≠ b) :
    pieces b (s.data.toList.drop f) = ((s.data.toList.drop f).take (i - f)) :: pieces b (s.data.toList.drop (i + 1)) := by
  have hg : ∀ j, j < s.size → s.data.toList[j]? = some (chr s j) := fun j hj => by
    unfold chr
    rw [List.getD_eq_getElem?_getD, List.getElem?_eq_getElem (by simpa using hj)]; rfl
  rw [pieces_hit b _ (i - f) ?_ ?_]
  · rw [List.drop_drop]
    congr 3; omega
  · rw [List.getElem?_drop, show f + (i - f) = i by omega, hg i hi, hb]
  · intro j hj
    rw [List.getElem?_drop, hg (f + j) (by omega)]
    intro e
    exact hn (f + j) (by omega) (by omega) (by simpa using e)
theorem pieces_last (s : ByteArray) (b : UInt8) (f : Nat) (hn : ∀ j, f ≤ j → j < s.size → chr s j ≠ b) : pieces b (s.data.toList.drop f) = [s.data.toList.drop f] := by
  refine pieces_miss b _ fun j => ?_
  rw [List.getElem?_drop]
  intro e
  obtain ⟨h1, h2⟩ := List.getElem?_eq_some_iff.1 e
  have hlt : f + j < s.size := by simpa using h1
  refine hn (f + j) (by omega) hlt ?_
  unfold chr
  rw [List.getD_eq_getElem?_getD, e]; rfl
set_option maxHeartbeats 8000000 in
theorem words_s (s : ByteArray) (w : World) (hs : s.size ≤ 1100000) :
    Calls Tryz.prog 48 #[.string s] w fun e w' => ∃ v, e = .returned v ∧ w'.ownsRow w.heap.size 9 1 v (partsB 32 s).length (scells (partsB 32 s)) ∧ Below w.heap.size w w' := by
  have hb := get_bt s
  obtain ⟨b, hbb⟩ : ∃ b : UInt8, 32 = b := ⟨_, rfl⟩
  have HX := Lib.hid (show (32 : Int) = (b.toNat : Int) by rw [← hbb]; rfl)
  rw [hbb]
  clear hbb
  have HPB := Lib.hid (parts_ofL b s)
  go_enter Tryz.func48, Tryz.ntmps48
  go_wp2
  go_loopw [3, 4, 5] (fun lv fv iv wr => ∃ (i f : Nat) (out : List (List UInt8)), i ≤ s.size + 1 ∧ fv = .int .i64 f ∧ iv = .int .i64 i ∧ out.length ≤ i ∧ Hid (i ≤ s.size → f ≤ i) ∧ Hid (i ≤ s.size → ∀ j, f ≤ j → j < i → chr s j ≠ b) ∧
      Hid (i ≤ s.size → pieces b s.data.toList = out ++ pieces b (s.data.toList.drop f)) ∧ Hid (s.size < i → pieces b s.data.toList = out) ∧ wr.ownsRow w.heap.size 9 1 lv out.length (scells (out.map ofL)) ∧ Below w.heap.size w wr)
    (fun _ _ iv _ => s.size + 1 - (intOf iv).toNat)
  case atStart => exact ⟨0, 0, [], Nat.zero_le _, rfl, rfl, by simp, Lib.hid (fun _ => Nat.le_refl _), Lib.hid (fun _ j _ hj => absurd hj (Nat.not_lt_zero _)), Lib.hid (fun _ => rfl), Lib.hid (fun h => absurd h (Nat.not_lt_zero _)), World.ownsRow_nil _ _ _ _, Below.refl _ _⟩
  case round =>
    obtain ⟨i, f, out, hi, rfl, rfl, hol, HFI, HN, HU, HE, hown, hbel⟩ := hrel
    by_cases hlt : i < s.size
    · have hf : f ≤ i := HFI.out (by omega)
      have HC := Lib.hid (bt_chr s i)
      have g1 : decide ((i : Int) ≤ (s.size : Int)) = true := decide_eq_true (by omega)
      have g2 : ((i : Int) == (s.size : Int)) = false := by simp; omega
      cases c0 : (bt s i == 32)
      · have HNB := Lib.hid (show chr s i ≠ b from fun e => by
          have h1 : bt s i = 32 := by rw [HC.out, e, HX.out]
          rw [h1] at c0; simp at c0)
        go_wp2
        go_roundw
        case rel => exact ⟨i + 1, f, out, by omega, rfl, by go_num, by omega, Lib.hid (fun _ => by omega), Lib.hid (fun _ j h1 h2 => if e : j = i then by rw [e]; exact HNB.out else HN.out (by omega) j h1 (by omega)), Lib.hid (fun _ => HU.out (by omega)), Lib.hid (fun h => absurd h (by omega)), hown, hbel⟩
        case measure => simp [intOf]; omega
      · have HB := Lib.hid (show chr s i = b by
          have h1 : bt s i = 32 := beq_iff_eq.1 c0
          exact UInt8.toNat_inj.1 (by have := HC.out; have := HX.out; omega))
        have HST := Lib.hid (pieces_step s b f i hf hlt HB.out (HN.out (by omega)))
        have hex := extract_ofL s f i (by omega)
        have hcells : scells ((out ++ [(s.data.toList.drop f).take (i - f)]).map ofL) = scells (out.map ofL) ++ [.string (ofL ((s.data.toList.drop f).take (i - f)))] := by simp [scells]
        have HCE := Lib.hid hcells; clear hcells
        go_wp2_with (at_builtin; go_must (refine push_str _ hown (.tmp 22) (.tmp 27) _ ?_ ?_ ?_ ?_ ?_ ?_ ?_; exact rfl; exact rfl; exact rfl; exact rfl; omega; exact hbel.size; intro v' w1 hown1 hb1))
        go_roundw
        case rel => exact ⟨i + 1, i + 1, out ++ [(s.data.toList.drop f).take (i - f)], by omega, by go_num, by go_num, by simp; omega, Lib.hid (fun _ => Nat.le_refl _), Lib.hid (fun _ j h1 h2 => absurd h1 (by omega)), Lib.hid (fun _ => by rw [HU.out (by omega), HST.out]; simp), Lib.hid (fun h => absurd h (by omega)), by rw [HCE.out, List.length_append]; exact hown1, hbel.trans hb1⟩
        case measure => simp [intOf]; omega
    · by_cases hie : i = s.size
      · subst hie
        have hf : f ≤ s.size := HFI.out (Nat.le_refl _)
        have g1 : decide ((s.size : Int) ≤ (s.size : Int)) = true := decide_eq_true (by omega)
        have HST := Lib.hid (pieces_last s b f (fun j h1 h2 => HN.out (Nat.le_refl _) j h1 h2))
        have hex := Lib.extract_from s f
        have hcells : scells ((out ++ [s.data.toList.drop f]).map ofL) = scells (out.map ofL) ++ [.string (s.extract f s.size)] := by rw [hex]; simp [scells, ofL]
        have HCE := Lib.hid hcells; clear hcells hex
        go_wp2_with (at_builtin; go_must (refine push_str _ hown (.tmp 22) (.tmp 27) _ ?_ ?_ ?_ ?_ ?_ ?_ ?_; exact rfl; exact rfl; exact rfl; exact rfl; omega; exact hbel.size; intro v' w1 hown1 hb1))
        go_roundw
        case rel => exact ⟨s.size + 1, s.size + 1, out ++ [s.data.toList.drop f], Nat.le_refl _, by go_num, by go_num, by simp; omega, Lib.hid (fun h => absurd h (by omega)), Lib.hid (fun h => absurd h (by omega)), Lib.hid (fun h => absurd h (by omega)), Lib.hid (fun _ => by rw [HU.out (Nat.le_refl _), HST.out]), by rw [HCE.out, List.length_append]; exact hown1, hbel.trans hb1⟩
        case measure => simp [intOf] <;> omega
      · obtain rfl : i = s.size + 1 := by omega
        have g1 : decide (((s.size + 1 : Nat) : Int) ≤ (s.size : Int)) = false := decide_eq_false (by omega)
        have HF := Lib.hid (HE.out (by omega))
        go_wp2
        go_ret
        refine ⟨_, rfl, ?_, hbel⟩
        rw [HPB.out, HF.out, List.length_map]
        exact hown
end Go.Proofs.YtbkignlbcneddaaGreatDoor
end

section
/-
  What a line's words are read as, by the number of the fields; what is kept while they are read. Condition: words of at most 1000000 bytes.
-/
set_option maxRecDepth 100000
namespace Go.Proofs.YtbkignlbcneddaaGreatDoor
open Go.RowKit Go.PlainAid
open Csn (Cn cnV cnB KbC kbc_new box_below box_lt parEC parVC vldC fmtS TzOk)
theorem rec_N {ws : List ByteArray} (h3 : 3 ≤ ws.length) (hop : useN (opW (partAt ws 0)) = true) : recG ws = if parEC (partAt ws 1).data.toList ≠ 0 ∨ ws.length ≠ 4 ∨ unE (partAt ws 3) ≠ 0 then none
    else some ⟨parVC (partAt ws 1).data.toList, opW (partAt ws 0), partAt ws 2, unS (partAt ws 3), nilS, nilS⟩ := by
  match ws, h3, hop with
  | a :: b :: i :: r, _, hop =>
    have e0 : partAt (a :: b :: i :: r) 0 = a := rfl
    have e1 : partAt (a :: b :: i :: r) 1 = b := rfl
    have e2 : partAt (a :: b :: i :: r) 2 = i := rfl
    rw [e0] at hop
    have hV := useNV hop
    rw [e0, e1, e2]
    unfold recG
    simp only
    by_cases hp : parEC b.data.toList = 0
    · rw [if_neg (fun k => k hp)]
      match r with
      | [] => simp [hop]
      | [x] =>
        have e3 : partAt [a, b, i, x] 3 = x := rfl
        rw [e3]
        by_cases hx : unE x = 0
        · simp [hop, hx, hp]
        · simp [hx]
      | [x, y] => simp [hV]
      | _ :: _ :: _ :: _ => simp
    · rw [if_pos hp, if_pos (.inl hp)]
theorem rec_V {ws : List ByteArray} (h3 : 3 ≤ ws.length) (hop : useV (opW (partAt ws 0)) = true) : recG ws = if parEC (partAt ws 1).data.toList ≠ 0 ∨ ws.length ≠ 5 ∨ unE (partAt ws 3) ≠ 0 ∨ unE (partAt ws 4) ≠ 0 then none
    else some ⟨parVC (partAt ws 1).data.toList, opW (partAt ws 0), partAt ws 2, nilS, unS (partAt ws 3), unS (partAt ws 4)⟩ := by
  match ws, h3, hop with
  | a :: b :: i :: r, _, hop =>
    have e0 : partAt (a :: b :: i :: r) 0 = a := rfl
    have e1 : partAt (a :: b :: i :: r) 1 = b := rfl
    have e2 : partAt (a :: b :: i :: r) 2 = i := rfl
    rw [e0] at hop
    have hN : useN (opW a) = false := by
      cases e : useN (opW a)
      · rfl
      · have := useNV e; rw [hop] at this; cases this
    rw [e0, e1, e2]
    unfold recG
    simp only
    by_cases hp : parEC b.data.toList = 0
    · rw [if_neg (fun k => k hp)]
      match r with
      | [] => simp [hop]
      | [x] => simp [hN]
      | [x, y] =>
        have e3 : partAt [a, b, i, x, y] 3 = x := rfl
        have e4 : partAt [a, b, i, x, y] 4 = y := rfl
        rw [e3, e4]
        by_cases hx : unE x = 0
        · by_cases hy : unE y = 0
          · simp [hop, hx, hy, hp]
          · simp [hy]
        · simp [hx]
      | _ :: _ :: _ :: _ => simp
    · rw [if_pos hp, if_pos (.inl hp)]
theorem rec_0 {ws : List ByteArray} (h3 : 3 ≤ ws.length) (hN : useN (opW (partAt ws 0)) = false) (hV : useV (opW (partAt ws 0)) = false) : recG ws = if parEC (partAt ws 1).data.toList ≠ 0 ∨ ws.length ≠ 3 then none
    else some ⟨parVC (partAt ws 1).data.toList, opW (partAt ws 0), partAt ws 2, nilS, nilS, nilS⟩ := by
  match ws, h3, hN, hV with
  | a :: b :: i :: r, _, hN, hV =>
    have e0 : partAt (a :: b :: i :: r) 0 = a := rfl
    have e1 : partAt (a :: b :: i :: r) 1 = b := rfl
    have e2 : partAt (a :: b :: i :: r) 2 = i := rfl
    rw [e0] at hN hV
    rw [e0, e1, e2]
    unfold recG
    simp only
    by_cases hp : parEC b.data.toList = 0
    · rw [if_neg (fun k => k hp)]
      match r with
      | [] => simp [hN, hV, hp]
      | [x] => simp [hN]
      | [x, y] => simp [hV]
      | _ :: _ :: _ :: _ => simp
    · rw [if_pos hp, if_pos (.inl hp)]
theorem rec_few {ws : List ByteArray} (h : ws.length < 3) : recG ws = none := by
  match ws, h with
  | [], _ => rfl
  | [_], _ => rfl
  | [_, _], _ => rfl
/-- what is kept while a line's words are read: the result's box, the words, the variables -/
structure RwP (w : World) (b2 : Nat) (ao : Option Addr) (n cap : Nat) (ws : List ByteArray) (W : World) : Prop where
  low : Below w.heap.size w W
  res : KbC W b2 (chB zeroG)
  wds : StrsAt W ao n cap ws
  ok : COk W
theorem RwP.step {w W X : World} {b2 : Nat} {ao : Option Addr} {n cap : Nat} {ws : List ByteArray} (h : RwP w b2 ao n cap ws W) (hb : Below W.heap.size W X) : RwP w b2 ao n cap ws X :=
  ⟨h.low.trans (hb.mono h.low.size), Csn.KbC.step h.res hb, h.wds.below hb, h.ok.step hb⟩
theorem zero_is : chB zeroG = .cells #[.int .i64 0, .int .i64 0, .int .i64 0, .int .i64 0, .string ⟨#[]⟩, .string ⟨#[]⟩, .string ⟨#[]⟩, .string ⟨#[]⟩] 26 := rfl
theorem rwp_new {w : World} {ao : Option Addr} {n cap : Nat} {ws : List ByteArray} (h : StrsAt w ao n cap ws) (ho : COk w) : RwP w w.heap.size ao n cap ws (w.alloc (chB zeroG)) :=
  ⟨box_below w _, kbc_new w _, h.below (box_below w _), ho.step (box_below w _)⟩
/-- a store into a block of the call's own, above all that is kept -/
theorem RwP.own {w V X : World} {b2 : Nat} {ao : Option Addr} {n cap : Nat} {ws : List ByteArray} (h : RwP w b2 ao n cap ws V) (h0 : COk w) (hs : StrsAt w ao n cap ws) {B : Nat} (hB : w.heap.size ≤ B) (h2 : b2 < B) (hb : Below B V X) : RwP w b2 ao n cap ws X :=
  have hl : Below w.heap.size w X := h.low.trans (hb.mono hB)
  ⟨hl, Csn.KbC.keep h.res hb h2, hs.below hl, h.ok.keep h0 hB hb⟩
theorem kbc_set8 {W : World} {b : Nat} {t : TypeId} {a0 a1 a2 a3 a4 a5 a6 a7 u0 u1 u2 u3 u4 u5 u6 u7 : Value} (h : KbC W b (.cells #[a0, a1, a2, a3, a4, a5, a6, a7] t)) :
    KbC ((((((((W.setCell ⟨b, 0, none⟩ u0).setCell ⟨b, 1, none⟩ u1).setCell ⟨b, 2, none⟩ u2).setCell ⟨b, 3, none⟩ u3).setCell ⟨b, 4, none⟩ u4).setCell ⟨b, 5, none⟩ u5).setCell ⟨b, 6, none⟩ u6).setCell ⟨b, 7, none⟩ u7) b (.cells #[u0, u1, u2, u3, u4, u5, u6, u7] t) := by
  have := Csn.KbC.set (i := 7) (Csn.KbC.set (i := 6) (Csn.KbC.set (i := 5) (Csn.KbC.set (i := 4) (Csn.KbC.set (i := 3) (Csn.KbC.set (i := 2) (Csn.KbC.set (i := 1) (Csn.KbC.set (i := 0) h u0) u1) u2) u3) u4) u5) u6) u7
  simpa using this
theorem below_set8 {B : Nat} {w W : World} (h : Below B w W) {b : Nat} (hB : B ≤ b) (u0 u1 u2 u3 u4 u5 u6 u7 : Value) :
    Below B w ((((((((W.setCell ⟨b, 0, none⟩ u0).setCell ⟨b, 1, none⟩ u1).setCell ⟨b, 2, none⟩ u2).setCell ⟨b, 3, none⟩ u3).setCell ⟨b, 4, none⟩ u4).setCell ⟨b, 5, none⟩ u5).setCell ⟨b, 6, none⟩ u6).setCell ⟨b, 7, none⟩ u7) :=
  (((((((h.setCell (p := ⟨b, 0, none⟩) hB u0).setCell (p := ⟨b, 1, none⟩) hB u1).setCell (p := ⟨b, 2, none⟩) hB u2).setCell (p := ⟨b, 3, none⟩) hB u3).setCell (p := ⟨b, 4, none⟩) hB u4).setCell (p := ⟨b, 5, none⟩) hB u5).setCell (p := ⟨b, 6, none⟩) hB u6).setCell (p := ⟨b, 7, none⟩) hB u7
theorem kbc_other {W : World} {b c : Nat} {o : Obj} (h : KbC W b o) (hne : b ≠ c) (k : Nat) (u : Value) : KbC (W.setCell ⟨c, k, none⟩ u) b o := by
  have h0 : W.heap[b]? = some o := h
  unfold KbC World.setCell
  show (W.heap.modify c _)[b]? = some o
  rw [Array.getElem?_modify, if_neg (Ne.symm hne), h0]
theorem readWords_results (tmps : Array Value) (b : Nat) (cs : Array Value) (t : TypeId) (W : World) (hp : tmps.getD 2 undef = .pointer (some ⟨b, 0, none⟩)) (h : KbC W b (.cells cs t)) (h8 : cs.size = 8) :
    (results Tryz.f46 tmps).run Tryz.prog W = .ok (.tuple #[.agg cs, tmps.getD 3 undef]) W := by
  rw [results_cell_tmp rfl, hp]
  have hl := run_loadVar_row (P := Tryz.prog) W b t 26 cs (0, 0) _ h (by rfl) (by rfl) (by rw [h8]; rfl)
  simp [asAddr, Result.andThen, hl]
theorem parse_k (s : ByteArray) (a b c z : Int) (w : World) (hs : s.size ≤ 1000000) (ho : MaxOk w) (hv : parVC s.data.toList = (a, b, c)) (he : parEC s.data.toList = z) :
    Calls Tryz.prog 93 #[.string s] w fun e w' => e = .returned (.tuple #[.agg #[.int .i64 a, .int .i64 b, .int .i64 c], .int .i64 z]) ∧ Below w.heap.size w w' := by
  have := Csn.parse_s s w hs ho
  rw [hv, he] at this
  exact this
theorem unesc_k (s r : ByteArray) (z : Int) (w : World) (hs : s.size ≤ 1000000) (hr : unS s = r) (hz : unE s = z) :
    Calls Tryz.prog 95 #[.string s] w fun e w' => e = .returned (.tuple #[.string r, .int .i64 z]) ∧ Below w.heap.size w w' := by subst hr hz; exact unescape_s s w (by omega)
theorem readOp_k (s : ByteArray) (o : Int) (w : World) (ho : OpOk w) (h : opW s = o) :
    Calls Tryz.prog 94 #[.string s] w fun e w' => e = .returned (.int .i64 o) ∧ Below w.heap.size w w' := by subst h; exact readOp_s s w ho
theorem part_z {ws : List ByteArray} (h : ∀ s ∈ ws, s.size ≤ 1000000) (j : Nat) : (partAt ws j).size ≤ 1000000 := by
  unfold partAt
  rw [List.getD_eq_getElem?_getD]
  cases e : ws[j]? with
  | none => show (0 : Nat) ≤ 1000000; omega
  | some x => exact h x (List.mem_of_getElem? e)
end Go.Proofs.YtbkignlbcneddaaGreatDoor
end
