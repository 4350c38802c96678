/-
  Contracts of Text and Parse of both sides. Condition: lists of at most 5000 strings of at most 1000000 bytes, texts of at most 4000 bytes.
-/
import Derived.Test.YtminodinhbcgnaaDoorScoB
set_option maxRecDepth 100000
set_option linter.unusedVariables false
set_option linter.unusedSimpArgs false
set_option linter.unnecessarySimpa false
namespace Go.Proofs.YtminodinhbcgnaaDoor
open Go.RowKit Go.PlainAid

theorem MaxOk.step {w w' : World} (h : MaxOk w) (hb : Below w.heap.size w w') : MaxOk w' := h.below hb h.lt
theorem emp_yes {s : ByteArray} (h : s = ⟨#[]⟩) : s.toList.isEmpty = true := by rw [Lib.toList_data, h]; rfl
theorem emp_no {s : ByteArray} (h : ¬ s = ⟨#[]⟩) : s.toList.isEmpty = false := by
  rw [Lib.toList_data]
  cases e : s.data.toList with
  | nil => exact absurd (ba_ext (by rw [e])) h
  | cons x r => rfl
theorem nil_beq {s : ByteArray} (h : ¬ s = ⟨#[]⟩) : (s.toList == []) = false := by
  have := emp_no h
  cases e : s.toList with
  | nil => rw [e] at this; cases this
  | cons x r => rfl
theorem sms_vd {l : List ByteArray} (h : chkS l = 0) : l.length ≤ 16 ∧ ∀ s ∈ l, s.size ≤ 64 := ⟨chk_len h, fun s hs => (word_size (vd_word (chk_vd h hs))).2⟩
theorem sms_parts {s : ByteArray} (h : s.size ≤ 4000) : SmS (partsB 32 s) := by
  have := partsB_le 32 s
  exact ⟨by omega, fun j hj => by
    have := partsB_small (part_mem (partsB 32 s) j hj)
    omega⟩
theorem sms_in {l : List ByteArray} (h : SmS l) {s : ByteArray} (hs : s ∈ l) : s.size ≤ 1000000 := by
  obtain ⟨j, hj, rfl⟩ := List.getElem_of_mem hs
  rw [← part_get hj]; exact h.2 j hj

set_option maxHeartbeats 4000000 in
theorem join_k (ao : Option Addr) (n cap : Nat) (l : List ByteArray) (r : ByteArray) (w : World) (h : StrsAt w ao n cap l) (hl : n ≤ 16) (hz : ∀ s ∈ l, s.size ≤ 64) (hr : joinB 32 l = r) :
    Calls Tryd.prog 30 #[.slice ao n cap, .string ⟨#[32]⟩] w fun e w' => e = .returned (.string r) ∧ Below w.heap.size w w' := by
  by_cases hn : n = 0
  · subst hn
    have hl0 : l = [] := List.length_eq_zero_iff.1 h.1
    subst hl0
    subst hr
    clear h
    go_enter Tryd.func30, Tryd.ntmps30
    go_wp2_with fail
    go_ret
    exact ⟨rfl, Below.refl _ _⟩
  · subst hr
    exact joinF_s 32 ao n cap l w h (by omega) (by omega) (fun s hs => by have := hz s hs; omega)

set_option maxHeartbeats 4000000 in
theorem text_k (ao : Option Addr) (n cap : Nat) (l : List ByteArray) (x : ByteArray) (z : Int) (w : World) (h : StrsAt w ao n cap l) (hs : SmS l) (ho : MaxOk w) (hx : txS l = x) (hz : chkS l = z) :
    Calls Tryd.prog 12 #[.slice ao n cap] w fun e w' => e = .returned (.tuple #[.string x, .int .i64 z]) ∧ Below w.heap.size w w' := by
  have HC := Lib.hid (check_k ao n cap l z w h hs ho hz)
  unfold txS at hx
  by_cases h0 : z = 0
  · rw [hz, if_pos h0] at hx
    have hb := sms_vd (hz.trans h0)
    have HJ := Lib.hid (join_k ao n cap l x w h (by rw [← h.1]; exact hb.1) hb.2 hx)
    have q1 : (z != 0) = false := by rw [h0]; rfl
    have HZ := Lib.hid h0
    clear h hs ho hx hz h0 hb
    go_enter Tryd.func12, Tryd.ntmps12
    go_wp2_with fail
    refine HC.out.mono ?_
    rintro e w' ⟨rfl, rfl⟩
    go_wp2_with fail
    refine HJ.out.mono ?_
    rintro e w' ⟨rfl, hb⟩
    have HB := Lib.hid hb
    clear hb
    go_wp2_with fail
    go_ret2
    exact ⟨by rw [HZ.out]; rfl, HB.out⟩
  · rw [hz, if_neg h0] at hx
    have q1 : (z != 0) = true := by simpa using h0
    have HX := Lib.hid hx
    clear h hs ho hx hz h0
    go_enter Tryd.func12, Tryd.ntmps12
    go_wp2_with fail
    refine HC.out.mono ?_
    rintro e w' ⟨rfl, rfl⟩
    go_wp2_with fail
    go_ret2
    exact ⟨by rw [← HX.out]; rfl, Below.refl _ _⟩
set_option maxHeartbeats 4000000 in
theorem parse_k (s : ByteArray) (z : Int) (L : List ByteArray) (w : World) (hs : s.size ≤ 4000) (ho : MaxOk w) (hz : prE s = z) (hL : prL s = L) :
    Calls Tryd.prog 14 #[.string s] w fun e w' => ∃ ao n cap, e = .returned (.tuple #[.slice ao n cap, .int .i64 z]) ∧ StrsAt w' ao n cap L ∧ Below w.heap.size w w' := by
  have hnil : ∀ W : World, StrsAt W none 0 0 [] := fun W => ⟨rfl, Nat.le_refl _, by unfold maxLen; omega, fun h => absurd h (Nat.lt_irrefl _)⟩
  have HNil := Lib.hid hnil
  clear hnil
  unfold prE at hz
  unfold prL at hL
  by_cases he : s = ⟨#[]⟩
  · rw [if_pos he] at hz hL
    have HE := Lib.hid he
    subst hz hL
    have q1 := emp_yes he
    clear he ho
    go_enter Tryd.func14, Tryd.ntmps14
    go_wp2_with fail
    go_ret2
    exact ⟨_, _, _, rfl, HNil.out _, Below.refl _ _⟩
  · rw [if_neg he] at hz hL
    have q1 := emp_no he
    have q2 := nil_beq he
    have HS := Lib.hid (splitF_s 32 s w (by omega) ho)
    have HM := Lib.hid (sms_parts hs)
    have HO := Lib.hid ho
    clear he ho
    obtain ⟨ps, hps⟩ : ∃ ps, partsB 32 s = ps := ⟨_, rfl⟩
    rw [hps] at hz hL HS HM
    have HZ := Lib.hid hz
    by_cases h0 : z = 0
    · rw [hz, if_pos h0] at hL
      subst hL
      have q3 : (z != 0) = false := by rw [h0]; rfl
      have H0 := Lib.hid h0
      clear hz h0 hps
      go_enter Tryd.func14, Tryd.ntmps14
      go_wp2_with fail
      refine HS.out.mono ?_
      rintro e w' ⟨rfl, hat, hb⟩
      have HA := Lib.hid hat
      have HB := Lib.hid hb
      have HO2 := Lib.hid (HO.out.step hb)
      clear hat hb
      go_wp2_with fail
      refine (check_k _ _ _ ps z _ HA.out HM.out HO2.out HZ.out).mono ?_
      rintro e w' ⟨rfl, rfl⟩
      go_wp2_with fail
      go_ret2
      exact ⟨_, _, _, by rw [H0.out]; rfl, HA.out, HB.out⟩
    · rw [hz, if_neg h0] at hL
      subst hL
      have q3 : (z != 0) = true := by simpa using h0
      clear hz h0 hps
      go_enter Tryd.func14, Tryd.ntmps14
      go_wp2_with fail
      refine HS.out.mono ?_
      rintro e w' ⟨rfl, hat, hb⟩
      have HA := Lib.hid hat
      have HB := Lib.hid hb
      have HO2 := Lib.hid (HO.out.step hb)
      clear hat hb
      go_wp2_with fail
      refine (check_k _ _ _ ps z _ HA.out HM.out HO2.out HZ.out).mono ?_
      rintro e w' ⟨rfl, rfl⟩
      go_wp2_with fail
      go_ret2
      exact ⟨_, _, _, rfl, HNil.out _, HB.out⟩

/-! ### the specification's Text -/
theorem join_more (c : UInt8) (x : List UInt8) : ∀ ps : List (List UInt8), ps ≠ [] → Lib.join (ps ++ [x]) [c] = Lib.join ps [c] ++ c :: x
  | [], h => absurd rfl h
  | [y], _ => by rw [List.singleton_append, join_two, Lib.join_one, Lib.join_one]
  | y :: z :: r, _ => by
    have ih := join_more c x (z :: r) (by simp)
    show Lib.join (y :: z :: (r ++ [x])) [c] = _
    rw [join_two, join_two]
    have ih : Lib.join (z :: (r ++ [x])) [c] = Lib.join (z :: r) [c] ++ c :: x := ih
    rw [ih]; simp
theorem joinB_one (s : ByteArray) : joinB 32 [s] = s := by
  unfold joinB
  show (⟨(Lib.join [s.data.toList] [32]).toArray⟩ : ByteArray) = s
  rw [Lib.join_one]
theorem joinB_more {l : List ByteArray} (h : l ≠ []) (s : ByteArray) : joinB 32 (l ++ [s]) = joinB 32 l ++ ⟨#[32]⟩ ++ s := by
  refine ba_ext ?_
  rw [ba_app, ba_app]
  show Lib.join ((l ++ [s]).map (·.data.toList)) [32] = Lib.join (l.map (·.data.toList)) [32] ++ [32] ++ s.data.toList
  rw [List.map_append, List.map_singleton, join_more _ _ _ (by simpa using h), List.append_assoc]; rfl
theorem joinB_take {l : List ByteArray} {k : Nat} (h : k < l.length) (h0 : 0 < k) : joinB 32 (l.take (k + 1)) = joinB 32 (l.take k) ++ ⟨#[32]⟩ ++ partAt l k := by
  rw [take_snoc l k h, joinB_more]
  intro e
  have := congrArg List.length e
  rw [List.length_take, List.length_nil] at this
  omega
theorem joinB_take0 {l : List ByteArray} (h : 0 < l.length) : joinB 32 (l.take 1) = partAt l 0 := by
  rw [take_snoc l 0 h, List.take_zero, List.nil_append, joinB_one]
theorem emp_app (s : ByteArray) : (⟨#[]⟩ : ByteArray) ++ s = s := by
  refine ba_ext ?_
  rw [ba_app]; rfl
set_option maxHeartbeats 4000000 in
theorem rtext_k (ao : Option Addr) (n cap : Nat) (l : List ByteArray) (x : ByteArray) (z : Int) (w : World) (h : StrsAt w ao n cap l) (hs : SmS l) (hx : txS l = x) (hz : chkS l = z) :
    Calls Tryd.prog 13 #[.slice ao n cap] w fun e w' => e = .returned (.tuple #[.string x, .int .i64 z]) ∧ Below w.heap.size w w' := by
  have HC := Lib.hid (rcheck_k ao n cap l z w h hs hz)
  unfold txS at hx
  by_cases h0 : z = 0
  · rw [hz, if_pos h0] at hx
    have hb := sms_vd (hz.trans h0)
    have q1 : (z != 0) = false := by rw [h0]; rfl
    have HZ := Lib.hid h0
    obtain ⟨h1, h2, h3, h4⟩ := h
    subst h1
    unfold maxLen at h3
    have H4 := Lib.hid h4; clear h4
    have hl16 := hb.1
    have HS := Lib.hid hb.2
    have HX := Lib.hid hx
    clear hs hx hz h0 hb
    go_enter Tryd.func13, Tryd.ntmps13
    go_wp2_with fail
    refine HC.out.mono ?_
    rintro e w' ⟨rfl, hb⟩
    have HB := Lib.hid hb
    clear hb
    go_wp2_with fail
    go_loop [5, 6] (fun sv i => ∃ (k : Nat) (t : ByteArray), k ≤ l.length ∧ i = .int .i64 k ∧ sv = .string t ∧ t.size ≤ k * 65 ∧ Hid (joinB 32 (l.take k) = t)) (fun _ i => l.length - (intOf i).toNat)
    case atStart => exact ⟨0, ⟨#[]⟩, Nat.zero_le _, rfl, rfl, Nat.le_refl _, Lib.hid rfl⟩
    case round =>
      obtain ⟨k, t, hk, rfl, rfl, ht, HT⟩ := hrel
      by_cases hlt : k < l.length
      · obtain ⟨b, off, rfl, hs⟩ := H4.out (by omega)
        have hcell := (hs.below HB.out hs.1).2 k hlt
        clear hs
        obtain ⟨p, hpe⟩ : ∃ p, partAt l k = p := ⟨_, rfl⟩
        have hps : p.size ≤ 64 := by rw [← hpe]; exact HS.out _ (part_mem l k hlt)
        rw [hpe] at hcell
        have d1 : (k : Int) < (l.length : Int) := by omega
        by_cases hk0 : 0 < k
        · have HN := Lib.hid (show joinB 32 (l.take (k + 1)) = t ++ ⟨#[32]⟩ ++ p by rw [joinB_take hlt hk0, HT.out, hpe])
          have d2 : (0 : Int) < (k : Int) := by omega
          have z1 : ¬ 9223372036854775807 < t.size + 1 := by omega
          have zs : (t ++ ⟨#[32]⟩).size = t.size + 1 := by rw [ByteArray.size_append]; rfl
          have z2 : ¬ 9223372036854775807 < (t ++ ⟨#[32]⟩).size + p.size := by omega
          have z3 : ¬ 9223372036854775807 < t.size + 1 + p.size := by omega
          have hsz : (t ++ ⟨#[32]⟩ ++ p).size ≤ (k + 1) * 65 := by rw [ByteArray.size_append, zs]; omega
          clear hpe
          go_wp2_with fail
          go_round
          case rel => exact ⟨k + 1, _, by omega, by go_num, rfl, hsz, HN⟩
          case measure => simp [intOf]; omega
        · obtain rfl : k = 0 := by omega
          have ht0 : t = ⟨#[]⟩ := by rw [← HT.out]; rfl
          subst ht0
          have HN := Lib.hid (show joinB 32 (l.take (0 + 1)) = p by rw [← hpe]; exact joinB_take0 hlt)
          have z2 : ¬ 9223372036854775807 < (⟨#[]⟩ : ByteArray).size + p.size := by show ¬ 9223372036854775807 < 0 + p.size; omega
          have z3 : ¬ 9223372036854775807 < p.size := by omega
          have z4 : ¬ 9223372036854775807 < 0 + p.size := by omega
          have HE := Lib.hid (emp_app p)
          have hcell0 : w'.cell? ⟨b, off, none⟩ = some (.string p) := hcell
          clear hpe
          go_wp2_with fail
          go_round
          case rel => exact ⟨1, _, by omega, by go_num, rfl, by rw [HE.out]; omega, Lib.hid (by rw [HE.out]; exact HN.out)⟩
          case measure => simp [intOf]; omega
      · have HE := Lib.hid (show t = x by
          obtain rfl : k = l.length := by omega
          rw [← HT.out, List.take_length]; exact HX.out)
        have e1 : ¬ (k : Int) < (l.length : Int) := by omega
        go_wp2_with fail
        go_ret2
        exact ⟨by rw [HE.out, HZ.out]; rfl, HB.out⟩
  · rw [hz, if_neg h0] at hx
    have q1 : (z != 0) = true := by simpa using h0
    have HX := Lib.hid hx
    clear h hs hx hz h0
    go_enter Tryd.func13, Tryd.ntmps13
    go_wp2_with fail
    refine HC.out.mono ?_
    rintro e w' ⟨rfl, hb⟩
    have HB := Lib.hid hb
    clear hb
    go_wp2_with fail
    go_ret2
    exact ⟨by rw [← HX.out]; rfl, HB.out⟩

/-! ### the specification's Parse -/
theorem extract_ofL (s : ByteArray) (i j : Nat) (h : j ≤ s.size) : s.extract i j = ofL ((s.data.toList.drop i).take (j - i)) := by
  have h1 := Lib.extract_toList s i j
  rw [← Lib.mk_data (s.extract i j), ← Lib.toList_data, h1]
  rfl
theorem pieces_step (s : ByteArray) (b : UInt8) (f i : Nat) (hf : f ≤ i) (hi : i < s.size) (hb : chr s i = b) (hn : ∀ j, f ≤ j → j < i → chr s j ≠ b) :
    pieces b (s.data.toList.drop f) = ((s.data.toList.drop f).take (i - f)) :: pieces b (s.data.toList.drop (i + 1)) := by
  have hg : ∀ j, j < s.size → s.data.toList[j]? = some (chr s j) := fun j hj => by
    unfold chr
    rw [List.getD_eq_getElem?_getD, List.getElem?_eq_getElem (by simpa using hj)]; rfl
  rw [pieces_hit b _ (i - f) ?_ ?_]
  · rw [List.drop_drop]
    congr 3; omega
  · rw [List.getElem?_drop, show f + (i - f) = i by omega, hg i hi, hb]
  · intro j hj
    rw [List.getElem?_drop, hg (f + j) (by omega)]
    intro e
    exact hn (f + j) (by omega) (by omega) (by simpa using e)
theorem pieces_last (s : ByteArray) (b : UInt8) (f : Nat) (hn : ∀ j, f ≤ j → j < s.size → chr s j ≠ b) : pieces b (s.data.toList.drop f) = [s.data.toList.drop f] := by
  refine pieces_miss b _ fun j => ?_
  rw [List.getElem?_drop]
  intro e
  obtain ⟨h1, h2⟩ := List.getElem?_eq_some_iff.1 e
  have hlt : f + j < s.size := by simpa using h1
  refine hn (f + j) (by omega) hlt ?_
  unfold chr
  rw [List.getD_eq_getElem?_getD, e]; rfl

set_option maxHeartbeats 8000000 in
theorem rparse_k (s : ByteArray) (z : Int) (L : List ByteArray) (w : World) (hs : s.size ≤ 4000) (hz : prE s = z) (hL : prL s = L) :
    Calls Tryd.prog 15 #[.string s] w fun e w' => ∃ ao n cap, e = .returned (.tuple #[.slice ao n cap, .int .i64 z]) ∧ StrsAt w' ao n cap L ∧ Below w.heap.size w w' := by
  have hnil : ∀ W : World, StrsAt W none 0 0 [] := fun W => ⟨rfl, Nat.le_refl _, by unfold maxLen; omega, fun h => absurd h (Nat.lt_irrefl _)⟩
  have HNil := Lib.hid hnil
  clear hnil
  unfold prE at hz
  unfold prL at hL
  by_cases he : s = ⟨#[]⟩
  · rw [if_pos he] at hz hL
    have HE := Lib.hid he
    subst hz hL
    have q1 := emp_yes he
    clear he
    go_enter Tryd.func15, Tryd.ntmps15
    go_wp2_with fail
    go_ret2
    exact ⟨_, _, _, rfl, HNil.out _, Below.refl _ _⟩
  · rw [if_neg he] at hz hL
    have q1 := emp_no he
    have q2 := nil_beq he
    have HM := Lib.hid (sms_parts hs)
    have hb := get_bt s
    have HPB := Lib.hid (parts_ofL 32 s)
    clear he
    obtain ⟨ps, hps⟩ : ∃ ps, partsB 32 s = ps := ⟨_, rfl⟩
    rw [hps] at hz hL HM HPB
    have HZ := Lib.hid hz
    have HL := Lib.hid hL
    clear hz hL hps
    go_enter Tryd.func15, Tryd.ntmps15
    go_wp2_with fail
    go_loopw [4, 5, 6] (fun lv fv iv wr => ∃ (i f : Nat) (out : List (List UInt8)), i ≤ s.size + 1 ∧ fv = .int .i64 f ∧ iv = .int .i64 i ∧ out.length ≤ i ∧ Hid (i ≤ s.size → f ≤ i) ∧ Hid (i ≤ s.size → ∀ j, f ≤ j → j < i → chr s j ≠ 32) ∧
        Hid (i ≤ s.size → pieces 32 s.data.toList = out ++ pieces 32 (s.data.toList.drop f)) ∧ Hid (s.size < i → pieces 32 s.data.toList = out) ∧ wr.ownsRow w.heap.size 9 1 lv out.length (scells (out.map ofL)) ∧ Below w.heap.size w wr)
      (fun _ _ iv _ => s.size + 1 - (intOf iv).toNat)
    case atStart => exact ⟨0, 0, [], Nat.zero_le _, rfl, rfl, by simp, Lib.hid (fun _ => Nat.le_refl _), Lib.hid (fun _ j _ hj => absurd hj (Nat.not_lt_zero _)), Lib.hid (fun _ => rfl), Lib.hid (fun h => absurd h (Nat.not_lt_zero _)), World.ownsRow_nil _ _ _ _, Below.refl _ _⟩
    case round =>
      obtain ⟨i, f, out, hi, rfl, rfl, hol, HFI, HN, HU, HE, hown, hbel⟩ := hrel
      by_cases hlt : i < s.size
      · have hf : f ≤ i := HFI.out (by omega)
        have HC := Lib.hid (bt_chr s i)
        have g1 : decide ((i : Int) ≤ (s.size : Int)) = true := decide_eq_true (by omega)
        have g2 : ((i : Int) == (s.size : Int)) = false := by simp; omega
        cases c0 : (bt s i == 32)
        · have HNB := Lib.hid (show chr s i ≠ 32 from fun e => by
            have h1 : bt s i = 32 := by rw [HC.out, e]; rfl
            rw [h1] at c0; simp at c0)
          go_wp2
          go_roundw
          case rel => exact ⟨i + 1, f, out, by omega, rfl, by go_num, by omega, Lib.hid (fun _ => by omega), Lib.hid (fun _ j h1 h2 => if e : j = i then by rw [e]; exact HNB.out else HN.out (by omega) j h1 (by omega)), Lib.hid (fun _ => HU.out (by omega)), Lib.hid (fun h => absurd h (by omega)), hown, hbel⟩
          case measure => simp [intOf]; omega
        · have HB := Lib.hid (show chr s i = 32 by
            have h1 : bt s i = 32 := beq_iff_eq.1 c0
            exact UInt8.toNat_inj.1 (by have := HC.out; have : (32 : UInt8).toNat = 32 := rfl; omega))
          have HST := Lib.hid (pieces_step s 32 f i hf hlt HB.out (HN.out (by omega)))
          have hex := extract_ofL s f i (by omega)
          have hcells : scells ((out ++ [(s.data.toList.drop f).take (i - f)]).map ofL) = scells (out.map ofL) ++ [.string (ofL ((s.data.toList.drop f).take (i - f)))] := by simp [scells]
          have HCE := Lib.hid hcells; clear hcells
          go_wp2_with (at_builtin; go_must (refine push_str _ hown (.tmp 26) (.tmp 31) _ ?_ ?_ ?_ ?_ ?_ ?_ ?_; exact rfl; exact rfl; exact rfl; exact rfl; omega; exact hbel.size; intro v' w1 hown1 hb1))
          go_roundw
          case rel => exact ⟨i + 1, i + 1, out ++ [(s.data.toList.drop f).take (i - f)], by omega, by go_num, by go_num, by simp; omega, Lib.hid (fun _ => Nat.le_refl _), Lib.hid (fun _ j h1 h2 => absurd h1 (by omega)), Lib.hid (fun _ => by rw [HU.out (by omega), HST.out]; simp), Lib.hid (fun h => absurd h (by omega)), by rw [HCE.out, List.length_append]; exact hown1, hbel.trans hb1⟩
          case measure => simp [intOf]; omega
      · by_cases hie : i = s.size
        · subst hie
          have hf : f ≤ s.size := HFI.out (Nat.le_refl _)
          have g1 : decide ((s.size : Int) ≤ (s.size : Int)) = true := decide_eq_true (by omega)
          have HST := Lib.hid (pieces_last s 32 f (fun j h1 h2 => HN.out (Nat.le_refl _) j h1 h2))
          have hex := Lib.extract_from s f
          have hcells : scells ((out ++ [s.data.toList.drop f]).map ofL) = scells (out.map ofL) ++ [.string (s.extract f s.size)] := by rw [hex]; simp [scells, ofL]
          have HCE := Lib.hid hcells; clear hcells hex
          go_wp2_with (at_builtin; go_must (refine push_str _ hown (.tmp 26) (.tmp 31) _ ?_ ?_ ?_ ?_ ?_ ?_ ?_; exact rfl; exact rfl; exact rfl; exact rfl; omega; exact hbel.size; intro v' w1 hown1 hb1))
          go_roundw
          case rel => exact ⟨s.size + 1, s.size + 1, out ++ [s.data.toList.drop f], Nat.le_refl _, by go_num, by go_num, by simp; omega, Lib.hid (fun h => absurd h (by omega)), Lib.hid (fun h => absurd h (by omega)), Lib.hid (fun h => absurd h (by omega)), Lib.hid (fun _ => by rw [HU.out (Nat.le_refl _), HST.out]), by rw [HCE.out, List.length_append]; exact hown1, hbel.trans hb1⟩
          case measure => simp [intOf] <;> omega
        · obtain rfl : i = s.size + 1 := by omega
          have g1 : decide (((s.size + 1 : Nat) : Int) ≤ (s.size : Int)) = false := decide_eq_false (by omega)
          have HF := Lib.hid (show out.map ofL = ps by rw [HPB.out, HE.out (by omega)])
          rw [HF.out] at hown
          obtain ⟨ao, cap, hv, hat⟩ := strs_own hown (show ps.length = out.length by rw [← HF.out, List.length_map])
          rw [hv]
          have HA := Lib.hid hat
          have HB := Lib.hid hbel
          obtain ⟨on, hon⟩ : ∃ x, out.length = x := ⟨_, rfl⟩
          rw [hon] at HA
          rw [hon]
          clear hown hat hbel HE HU HN HFI hv hol hon
          by_cases h0 : z = 0
          · have q3 : (z != 0) = false := by rw [h0]; rfl
            have HX := Lib.hid (show ps = L by have := HL.out; rwa [HZ.out, if_pos h0] at this)
            have H0 := Lib.hid h0
            clear h0
            go_wp2_with fail
            refine (rcheck_k _ _ _ ps z _ HA.out HM.out HZ.out).mono ?_
            rintro e w' ⟨rfl, hb2⟩
            have HB2 := Lib.hid (HB.out.trans (hb2.mono HB.out.size))
            have HA2 := Lib.hid (StrsAt.below HA.out hb2)
            clear hb2
            go_wp2_with fail
            go_ret2
            exact ⟨_, _, _, by rw [H0.out]; rfl, by rw [← HX.out]; exact HA2.out, HB2.out⟩
          · have q3 : (z != 0) = true := by simpa using h0
            have HX := Lib.hid (show [] = L by have := HL.out; rwa [HZ.out, if_neg h0] at this)
            clear h0
            go_wp2_with fail
            refine (rcheck_k _ _ _ ps z _ HA.out HM.out HZ.out).mono ?_
            rintro e w' ⟨rfl, hb2⟩
            have HB2 := Lib.hid (HB.out.trans (hb2.mono HB.out.size))
            clear hb2
            go_wp2_with fail
            go_ret2
            exact ⟨_, _, _, rfl, by rw [← HX.out]; exact HNil.out _, HB2.out⟩

end Go.Proofs.YtminodinhbcgnaaDoor
