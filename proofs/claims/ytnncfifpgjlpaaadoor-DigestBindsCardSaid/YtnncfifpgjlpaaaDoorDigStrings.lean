/-
  Contracts of the specification's Strings and Proves. Condition: at most 1000 strings of at most 1000 bytes.
-/
import Derived.Test.YtnncfifpgjlpaaaDoorDigProve
set_option linter.unusedVariables false
set_option linter.unusedSimpArgs false
set_option linter.unnecessarySimpa false
namespace Go.Proofs.YtnncfifpgjlpaaaDoor
open Go.RowKit Go.PlainAid

/-- what Strings returns: a slice of strings, and whether the path fits -/
def StrPost (S : Option (List ByteArray)) (w : World) (e : Ending) (w' : World) : Prop :=
  (∃ ao n cap L, e = .returned (.tuple #[.slice ao n cap, .bool S.isSome]) ∧ StrsAt w' ao n cap L ∧ ∀ M, S = some M → L = M) ∧ Below w.heap.size w w'
theorem strs_nil (w : World) : StrsAt w none 0 0 [] := ⟨rfl, Nat.le_refl _, by unfold maxLen; omega, fun h => absurd h (Nat.lt_irrefl _)⟩
theorem strings_bad (s : ByteArray) (i n : Int) (h : i < 0 ∨ n ≤ i) (ps : List ByteArray) : stringsO s i n ps = none := by unfold stringsO; rw [if_pos h]
theorem strings_at (s : ByteArray) (i n : Nat) (h : i < n) (ps : List ByteArray) : stringsO s i n ps = (climb (leafS s) i n ps).map ([leafQ s] ++ ·) := by
  unfold stringsO
  rw [if_neg (by omega), Int.toNat_natCast, Int.toNat_natCast]; rfl
theorem map_app (x : Option (List ByteArray)) (out : List ByteArray) (q : ByteArray) : (x.map (q :: ·)).map (out ++ ·) = x.map ((out ++ [q]) ++ ·) := by
  rw [Option.map_map]; congr 1; funext l; simp
theorem joinQ_odd (a b : ByteArray) (k : Nat) (h : k % 2 = 1) : joinQ a b k = pairQ b a := by unfold joinQ; rw [if_neg (by omega)]
theorem joinQ_even (a b : ByteArray) (k : Nat) (h : k % 2 = 0) : joinQ a b k = pairQ a b := by unfold joinQ; rw [if_pos h]

set_option maxRecDepth 100000 in
set_option maxHeartbeats 4000000 in
theorem strings_no (s : ByteArray) (i n : Int) (ao : Option Addr) (l cap : Nat) (ps : List ByteArray) (w : World) (hi : i < 0 ∨ n ≤ i) :
    Calls Tryd.prog 34 #[.string s, .int .i64 i, .int .i64 n, .slice ao l cap] w (StrPost (stringsO s i n ps) w) := by
  have HE := Lib.hid (strings_bad s i n hi ps)
  rcases or_badI i n hi with d | ⟨d1, d2⟩
  · clear hi
    go_enter Tryd.func34, Tryd.ntmps34
    go_wp2_with fail
    go_ret2
    rw [HE.out]
    exact ⟨⟨none, 0, 0, [], rfl, strs_nil _, fun M h => by cases h⟩, Below.refl _ _⟩
  · clear hi
    go_enter Tryd.func34, Tryd.ntmps34
    go_wp2_with fail
    go_ret2
    rw [HE.out]
    exact ⟨⟨none, 0, 0, [], rfl, strs_nil _, fun M h => by cases h⟩, Below.refl _ _⟩

set_option maxRecDepth 100000 in
set_option maxHeartbeats 8000000 in
theorem strings_yes (s : ByteArray) (i n : Nat) (ao : Option Addr) (l cap : Nat) (ps : List ByteArray) (w : World) (hi : i < n) (hn : n < 9223372036854775808) (hs : s.size ≤ 1000)
    (h : StrsAt w ao l cap ps) (hl : l ≤ 1000) (hp : ∀ j, j < ps.length → (partAt ps j).size ≤ 1000) :
    Calls Tryd.prog 34 #[.string s, .int .i64 i, .int .i64 n, .slice ao l cap] w (StrPost (stringsO s i n ps) w) := by
  have HP := Lib.hid hp; clear hp
  have H := Lib.hid h
  have hcn := h.2.1
  have hcm := h.2.2.1
  obtain rfl := h.1
  unfold maxLen at hcm
  clear h
  obtain ⟨S, HS⟩ : ∃ S, Hid (stringsO s i n ps = S) := ⟨_, Lib.hid rfl⟩
  rw [HS.out]
  have HS2 := Lib.hid (strings_at s i n hi ps)
  have d1 : decide ((i : Int) < 0) = false := decide_eq_false (by omega)
  have d2 : decide ((n : Int) ≤ (i : Int)) = false := decide_eq_false (by omega)
  obtain ⟨r, HR, hr, zr⟩ : ∃ r : ByteArray, Hid (r = leafQ s) ∧ (⟨#[48]⟩ : ByteArray) ++ s = r ∧ r.size ≤ 2000 := ⟨_, Lib.hid rfl, rfl, by rw [leafQ_size]; omega⟩
  have HB0 := Lib.hid ((Below.refl w.heap.size w).alloc (Nat.le_refl _) (.cells #[.string r] 9))
  have HOW := Lib.hid (World.ownsRow_lit (size := 1) (base := w.heap.size) (e := 9) w #[.string r] 1 (Nat.le_refl _) (by unfold maxLen; omega) rfl)
  go_enter Tryd.func34, Tryd.ntmps34
  go_wp2_with (go_at_call 17; refine (rtext_s r _ (by omega)).mono ?_; rintro e w1 ⟨rfl, rfl⟩)
  clear d1 d2
  go_loopw [1, 2, 10, 11, 12] (fun iv nv ov hv uv wr => ∃ (k m u : Nat) (out : List ByteArray) (node : ByteArray), iv = .int .i64 k ∧ nv = .int .i64 m ∧ hv = .string node ∧ uv = .int .i64 u ∧
      k < m ∧ m < 9223372036854775808 ∧ u ≤ ps.length ∧ out.length ≤ u + 1 ∧ node.size = 16 ∧ wr.ownsRow w.heap.size 9 1 ov out.length (scells out) ∧ Hid (S = (climb node k m (ps.drop u)).map (out ++ ·)) ∧ Below w.heap.size w wr)
    (fun _ nv _ _ _ _ => (intOf nv).toNat)
  case atStart => exact ⟨i, n, 0, [r], txtS r, rfl, rfl, rfl, rfl, hi, hn, Nat.zero_le _, by simp, txtS_size _, HOW.out, Lib.hid (by rw [← HS.out, HS2.out, HR.out]; rfl), HB0.out⟩
  case round =>
    obtain ⟨k, m, u, out, node, rfl, rfl, rfl, rfl, hkm, hm, hu, hou, hz, hown, HT, hbel⟩ := hrel
    by_cases h1 : 1 < m
    · obtain ⟨m2, HM2, e2⟩ : ∃ m2 : Nat, Hid (m / 2 + m % 2 = m2) ∧ (m : Int) / 2 + (m : Int) % 2 = (m2 : Int) := ⟨_, Lib.hid rfl, by omega⟩
      by_cases hod : k % 2 = 1
      · have hmt : mate k < m := by unfold mate; rw [if_neg (by omega)]; omega
        have d5 : ((k : Int) % 2 == 1) = true := by rw [beq_iff_eq]; omega
        by_cases hul : u < ps.length
        · obtain ⟨b, off, rfl, hbw, hcells⟩ := H.out.at (by omega)
          have hc := hcells _ hbel u hul
          have hzp := HP.out u hul
          obtain ⟨p, hpe⟩ : ∃ p, p = partAt ps u := ⟨_, rfl⟩
          have HN := Lib.hid (show S = ((climb (txtS (joinQ node p k)) (k / 2) (m / 2 + m % 2) (ps.drop (u + 1))).map ((out ++ [joinQ node p k]) ++ ·)) by
            rw [HT.out, drop_at ps u hul, ← hpe, climb_cons _ _ _ _ _ (by omega) hmt, map_app])
          rw [← hpe] at hc hzp
          clear hpe hcells hbw
          obtain ⟨a1, ha1, za1⟩ : ∃ a : ByteArray, (⟨#[49]⟩ : ByteArray) ++ node = a ∧ a.size = 17 := ⟨_, rfl, by rw [ByteArray.size_append, hz]; rfl⟩
          obtain ⟨a2, ha2, za2⟩ : ∃ a : ByteArray, (⟨#[49]⟩ : ByteArray) ++ p = a ∧ a.size ≤ 1001 := ⟨_, rfl, by rw [ByteArray.size_append]; have : (⟨#[49]⟩ : ByteArray).size = 1 := rfl; omega⟩
          obtain ⟨t, HTQ, ht, zt⟩ : ∃ t : ByteArray, Hid (joinQ node p k = t) ∧ a2 ++ node = t ∧ t.size ≤ 2000 := ⟨_, Lib.hid (by rw [joinQ_odd _ _ _ hod, ← ha2]; rfl), rfl, by rw [ByteArray.size_append]; omega⟩
          rw [HTQ.out] at HN
          have hsn := scells_snoc out t
          have k8 : (u : Int) < (ps.length : Int) := by omega
          have y4 : ¬ (9223372036854775807 < 1 + node.size) := by omega
          have y5 : ¬ (9223372036854775807 < 1 + p.size) := by omega
          go_wp2_with (first
            | (go_at_call 17; refine (rtext_s t _ (by omega)).mono ?_; rintro e w1 ⟨rfl, rfl⟩)
            | (at_builtin; go_must (refine push_str _ hown (.tmp 59) (.tmp 61) _ ?_ ?_ ?_ ?_ ?_ ?_ ?_; exact rfl; exact rfl; exact rfl; exact rfl; omega; exact hbel.size; intro v3 w3 hown3 hb3)))
          rw [← hsn] at hown3
          have HLEN : Hid ((out ++ [t]).length = out.length + 1) := Lib.hid (by simp)
          go_roundw
          case rel =>
            refine ⟨k / 2, m2, u + 1, out ++ [t], txtS t, by go_num, rfl, rfl, by go_num, ?_, ?_, hul, ?_, txtS_size _, by rw [HLEN.out]; exact hown3, Lib.hid ?_, hbel.trans hb3⟩
            · have := HM2.out; omega
            · have := HM2.out; omega
            · rw [HLEN.out]; omega
            · rw [← HM2.out]; exact HN.out
          case measure => have := HM2.out; simp [intOf]; omega
        · have HX := Lib.hid (show S = none by rw [HT.out, List.drop_eq_nil_of_le (by omega), climb_none _ _ _ (by omega) hmt]; rfl)
          have k8 : ¬ (u : Int) < (ps.length : Int) := by omega
          go_wp2_with fail
          go_ret2
          rw [HX.out]
          exact ⟨⟨none, 0, 0, [], rfl, strs_nil _, fun M h => by cases h⟩, hbel⟩
      · have d5 : ((k : Int) % 2 == 1) = false := by rw [beq_eq_false_iff_ne]; omega
        by_cases h2 : k + 1 < m
        · have hmt : mate k < m := by unfold mate; rw [if_pos (by omega)]; exact h2
          have k4 : (k : Int) + 1 < (m : Int) := by omega
          have k6 : decide ((k : Int) + 1 < (m : Int)) = true := decide_eq_true k4
          by_cases hul : u < ps.length
          · obtain ⟨b, off, rfl, hbw, hcells⟩ := H.out.at (by omega)
            have hc := hcells _ hbel u hul
            have hzp := HP.out u hul
            obtain ⟨p, hpe⟩ : ∃ p, p = partAt ps u := ⟨_, rfl⟩
            have HN := Lib.hid (show S = ((climb (txtS (joinQ node p k)) (k / 2) (m / 2 + m % 2) (ps.drop (u + 1))).map ((out ++ [joinQ node p k]) ++ ·)) by
              rw [HT.out, drop_at ps u hul, ← hpe, climb_cons _ _ _ _ _ (by omega) hmt, map_app])
            rw [← hpe] at hc hzp
            clear hpe hcells hbw
            obtain ⟨a1, ha1, za1⟩ : ∃ a : ByteArray, (⟨#[49]⟩ : ByteArray) ++ node = a ∧ a.size = 17 := ⟨_, rfl, by rw [ByteArray.size_append, hz]; rfl⟩
            obtain ⟨t, HTQ, ht, zt⟩ : ∃ t : ByteArray, Hid (joinQ node p k = t) ∧ a1 ++ p = t ∧ t.size ≤ 2000 := ⟨_, Lib.hid (by rw [joinQ_even _ _ _ (by omega), ← ha1]; rfl), rfl, by rw [ByteArray.size_append]; omega⟩
            rw [HTQ.out] at HN
            have hsn := scells_snoc out t
            have k8 : (u : Int) < (ps.length : Int) := by omega
            have y4 : ¬ (9223372036854775807 < 1 + node.size) := by omega
            have y5 : ¬ (9223372036854775807 < 1 + p.size) := by omega
            go_wp2_with (first
              | (go_at_call 17; refine (rtext_s t _ (by omega)).mono ?_; rintro e w1 ⟨rfl, rfl⟩)
              | (at_builtin; go_must (refine push_str _ hown (.tmp 59) (.tmp 61) _ ?_ ?_ ?_ ?_ ?_ ?_ ?_; exact rfl; exact rfl; exact rfl; exact rfl; omega; exact hbel.size; intro v3 w3 hown3 hb3)))
            rw [← hsn] at hown3
            have HLEN : Hid ((out ++ [t]).length = out.length + 1) := Lib.hid (by simp)
            go_roundw
            case rel =>
              refine ⟨k / 2, m2, u + 1, out ++ [t], txtS t, by go_num, rfl, rfl, by go_num, ?_, ?_, hul, ?_, txtS_size _, by rw [HLEN.out]; exact hown3, Lib.hid ?_, hbel.trans hb3⟩
              · have := HM2.out; omega
              · have := HM2.out; omega
              · rw [HLEN.out]; omega
              · rw [← HM2.out]; exact HN.out
            case measure => have := HM2.out; simp [intOf]; omega
          · have HX := Lib.hid (show S = none by rw [HT.out, List.drop_eq_nil_of_le (by omega), climb_none _ _ _ (by omega) hmt]; rfl)
            have k8 : ¬ (u : Int) < (ps.length : Int) := by omega
            go_wp2_with fail
            go_ret2
            rw [HX.out]
            exact ⟨⟨none, 0, 0, [], rfl, strs_nil _, fun M h => by cases h⟩, hbel⟩
        · have k4 : ¬ (k : Int) + 1 < (m : Int) := by omega
          have k6 : decide ((k : Int) + 1 < (m : Int)) = false := decide_eq_false k4
          have HN := Lib.hid (show S = (climb node (k / 2) (m / 2 + m % 2) (ps.drop u)).map (out ++ ·) by rw [HT.out, climb_skip _ _ _ _ (by omega) (by unfold mate; rw [if_pos (by omega)]; exact h2)])
          go_wp2_with fail
          go_roundw
          case rel =>
            refine ⟨k / 2, m2, u, out, node, by go_num, rfl, rfl, rfl, ?_, ?_, hu, hou, hz, hown, Lib.hid ?_, hbel⟩
            · have := HM2.out; omega
            · have := HM2.out; omega
            · rw [← HM2.out]; exact HN.out
          case measure => have := HM2.out; simp [intOf]; omega
    · have hcl := climb_end node k m (ps.drop u) (by omega)
      obtain ⟨bo, dap, rfl, hat⟩ := strs_own hown rfl
      by_cases hul : u = ps.length
      · have HX := Lib.hid (show S = some out by rw [HT.out, hcl, if_pos (List.drop_eq_nil_of_le (by omega))]; simp)
        have d3 : ((u : Int) == (ps.length : Int)) = true := by rw [beq_iff_eq]; omega
        clear hcl hul
        go_wp2_with fail
        go_ret2
        rw [HX.out]
        exact ⟨⟨_, _, _, out, rfl, hat, fun M h => Option.some.inj h⟩, hbel⟩
      · have HX := Lib.hid (show S = none by
          rw [HT.out, hcl, if_neg (fun e => by rw [List.drop_eq_nil_iff] at e; omega)]; rfl)
        have d3 : ((u : Int) == (ps.length : Int)) = false := by rw [beq_eq_false_iff_ne]; omega
        clear hcl hul
        go_wp2_with fail
        go_ret2
        rw [HX.out]
        exact ⟨⟨_, _, _, out, rfl, hat, fun M h => by cases h⟩, hbel⟩

theorem climb_fine : ∀ (m n : Nat) (node : ByteArray) (k : Nat) (path L : List ByteArray), n ≤ m → node.size = 16 → (∀ p ∈ path, p.size ≤ 1000) → climb node k n path = some L → ∀ q ∈ L, q.size ≤ 2000 := by
  intro m
  induction m with
  | zero =>
    intro n node k path L hm hz hp h
    rw [climb_end _ _ _ _ (by omega)] at h
    split at h
    · cases h; intro q hq; cases hq
    · cases h
  | succ m ih =>
    intro n node k path L hm hz hp h
    by_cases h1 : n ≤ 1
    · rw [climb_end _ _ _ _ h1] at h
      split at h
      · cases h; intro q hq; cases hq
      · cases h
    · by_cases hmt : mate k < n
      · cases path with
        | nil => rw [climb_none _ _ _ h1 hmt] at h; cases h
        | cons p r =>
          rw [climb_cons _ _ _ _ _ h1 hmt] at h
          obtain ⟨L', h', rfl⟩ := Option.map_eq_some_iff.1 h
          have hz' := txtS_size (joinQ node p k)
          have hih := ih (n / 2 + n % 2) (txtS (joinQ node p k)) (k / 2) r L' (by omega) hz' (fun q hq => hp q (List.mem_cons_of_mem _ hq)) h'
          intro q hq
          rcases List.mem_cons.1 hq with rfl | hq
          · have := hp p (by simp)
            unfold joinQ
            split
            · rw [pairQ_size]; omega
            · rw [pairQ_size]; omega
          · exact hih q hq
      · rw [climb_skip _ _ _ _ h1 hmt] at h
        exact ih _ _ _ _ _ (show n / 2 + n % 2 ≤ m by omega) hz hp h
theorem all_mem {ps : List ByteArray} (hp : ∀ j, j < ps.length → (partAt ps j).size ≤ 1000) : ∀ p ∈ ps, p.size ≤ 1000 := by
  intro p h
  obtain ⟨j, hj, rfl⟩ := List.getElem_of_mem h
  have := hp j hj
  unfold partAt at this
  rwa [List.getD_eq_getElem?_getD, List.getElem?_eq_getElem hj] at this
theorem strings_form {s : ByteArray} {i n : Int} {ps L : List ByteArray} (h : stringsO s i n ps = some L) : ∃ L', climb (leafS s) i.toNat n.toNat ps = some L' ∧ L = leafQ s :: L' := by
  unfold stringsO at h
  split at h
  · cases h
  · obtain ⟨L', h1, h2⟩ := Option.map_eq_some_iff.1 h
    exact ⟨L', h1, h2.symm⟩
theorem strings_fine {s : ByteArray} {i n : Int} {ps L : List ByteArray} (hs : s.size ≤ 1000) (hp : ∀ j, j < ps.length → (partAt ps j).size ≤ 1000) (h : stringsO s i n ps = some L) : ∀ j, j < L.length → (partAt L j).size ≤ 2000 := by
  obtain ⟨L', h1, rfl⟩ := strings_form h
  intro j hj
  cases j with
  | zero => rw [partAt_zero, leafQ_size]; omega
  | succ j =>
    rw [partAt_succ]
    have hj' : j < L'.length := by simpa using hj
    have hf := climb_fine _ _ (leafS s) _ _ _ (Nat.le_refl _) (leafS_size s) (all_mem hp) h1
    unfold partAt
    rw [List.getD_eq_getElem?_getD, List.getElem?_eq_getElem hj', Option.getD_some]
    exact hf _ (List.getElem_mem hj')
theorem tip_last : ∀ (L : List ByteArray) (node : ByteArray), 0 < L.length → tipS node L = txtS (partAt L (L.length - 1))
  | [], _, h => absurd h (Nat.lt_irrefl _)
  | [q], node, _ => by rw [tipS_cons]; rfl
  | q :: q' :: r, node, _ => by
    rw [tipS_cons, tip_last (q' :: r) _ (by simp)]
    rfl
theorem strings_none_k (s : ByteArray) (i n : Int) (ao : Option Addr) (l cap : Nat) (ps : List ByteArray) (w : World) (h : stringsO s i n ps = none) (h1 : i ≤ 9223372036854775807) (g1 : n ≤ 9223372036854775807) (hs : s.size ≤ 1000)
    (H : StrsAt w ao l cap ps) (hl : l ≤ 1000) (hp : ∀ j, j < ps.length → (partAt ps j).size ≤ 1000) :
    Calls Tryd.prog 34 #[.string s, .int .i64 i, .int .i64 n, .slice ao l cap] w fun e w' => (∃ ao n cap L, e = .returned (.tuple #[.slice ao n cap, .bool false]) ∧ StrsAt w' ao n cap L) ∧ Below w.heap.size w w' := by
  have hk : Calls Tryd.prog 34 #[.string s, .int .i64 i, .int .i64 n, .slice ao l cap] w (StrPost (stringsO s i n ps) w) := by
    by_cases hb : i < 0 ∨ n ≤ i
    · exact strings_no s i n ao l cap ps w hb
    · obtain ⟨i', rfl⟩ := Int.eq_ofNat_of_zero_le (show 0 ≤ i by omega)
      obtain ⟨n', rfl⟩ := Int.eq_ofNat_of_zero_le (show 0 ≤ n by omega)
      exact strings_yes s i' n' ao l cap ps w (by omega) (by omega) hs H hl hp
  rw [h] at hk
  exact hk.mono fun e w' ⟨⟨a, b, c, L, e1, e2, _⟩, e3⟩ => ⟨⟨a, b, c, L, e1, e2⟩, e3⟩
theorem strings_some_k (s : ByteArray) (i n : Int) (ao : Option Addr) (l cap : Nat) (ps M : List ByteArray) (w : World) (h : stringsO s i n ps = some M) (h1 : i ≤ 9223372036854775807) (g1 : n ≤ 9223372036854775807) (hs : s.size ≤ 1000)
    (H : StrsAt w ao l cap ps) (hl : l ≤ 1000) (hp : ∀ j, j < ps.length → (partAt ps j).size ≤ 1000) :
    Calls Tryd.prog 34 #[.string s, .int .i64 i, .int .i64 n, .slice ao l cap] w fun e w' => (∃ ao cap, e = .returned (.tuple #[.slice ao M.length cap, .bool true]) ∧ StrsAt w' ao M.length cap M) ∧ Below w.heap.size w w' := by
  have hk : Calls Tryd.prog 34 #[.string s, .int .i64 i, .int .i64 n, .slice ao l cap] w (StrPost (stringsO s i n ps) w) := by
    by_cases hb : i < 0 ∨ n ≤ i
    · exact strings_no s i n ao l cap ps w hb
    · obtain ⟨i', rfl⟩ := Int.eq_ofNat_of_zero_le (show 0 ≤ i by omega)
      obtain ⟨n', rfl⟩ := Int.eq_ofNat_of_zero_le (show 0 ≤ n by omega)
      exact strings_yes s i' n' ao l cap ps w (by omega) (by omega) hs H hl hp
  rw [h] at hk
  refine hk.mono fun e w' ⟨⟨a, b, c, L, e1, e2, e4⟩, e3⟩ => ?_
  obtain rfl := e4 M rfl
  obtain rfl := e2.1
  exact ⟨⟨a, c, e1, e2⟩, e3⟩

set_option maxRecDepth 100000 in
set_option maxHeartbeats 4000000 in
theorem rproves_s (root s : ByteArray) (i n : Int) (ao : Option Addr) (l cap : Nat) (ps : List ByteArray) (w : World) (h1 : i ≤ 9223372036854775807) (g1 : n ≤ 9223372036854775807) (hs : s.size ≤ 1000)
    (h : StrsAt w ao l cap ps) (hl : l ≤ 1000) (hp : ∀ j, j < ps.length → (partAt ps j).size ≤ 1000) :
    Calls Tryd.prog 33 #[.string root, .string s, .int .i64 i, .int .i64 n, .slice ao l cap] w fun e w' => e = .returned (.bool (provesB root s i n ps)) ∧ Below w.heap.size w w' := by
  cases hS : stringsO s i n ps with
  | none =>
    have HC := Lib.hid (strings_none_k s i n ao l cap ps w hS h1 g1 hs h hl hp)
    have HV := Lib.hid (show provesB root s i n ps = false by unfold provesB; rw [hS])
    clear hS hp h h1 g1 hs hl
    go_enter Tryd.func33, Tryd.ntmps33
    go_wp2_with (go_at_call 34; refine HC.out.mono ?_; rintro e w1 ⟨⟨bo, bn, dap, L, rfl, hat⟩, hb1⟩)
    go_ret
    exact ⟨by rw [HV.out]; rfl, hb1⟩
  | some M =>
    have HC := Lib.hid (strings_some_k s i n ao l cap ps M w hS h1 g1 hs h hl hp)
    have hM : 0 < M.length := by
      obtain ⟨L', _, rfl⟩ := strings_form hS
      simp
    have hzl := strings_fine hs hp hS (M.length - 1) (by omega)
    obtain ⟨q, hqe⟩ : ∃ q, q = partAt M (M.length - 1) := ⟨_, rfl⟩
    have HV := Lib.hid (show provesB root s i n ps = decide (txtS q = root) by
      unfold provesB; rw [hS]
      show decide (tipS root M = root) = _
      rw [tip_last M root hM, hqe])
    rw [← hqe] at hzl
    clear hS hp h h1 g1 hs hl
    by_cases hr : txtS q = root
    · have HW := Lib.hid (show provesB root s i n ps = true by rw [HV.out]; exact decide_eq_true hr)
      have HQ := Lib.hid hr
      have hq := str_eq hr
      clear hr
      go_enter Tryd.func33, Tryd.ntmps33
      go_wp2_with fail
      refine HC.out.mono ?_
      rintro e w1 ⟨⟨bo, dap, rfl, hat⟩, hb1⟩
      obtain ⟨b, off, rfl, hbw, hcells⟩ := hat.at hM
      have hm1 : (1 : Int) ≤ (M.length : Int) := by omega
      have hm2 : (M.length : Int) ≤ 9223372036854775807 := by
        have h2 := hat.2.1
        have h3 := hat.2.2.1
        unfold maxLen at h3
        omega
      have hc := hcells _ (Below.refl _ _) (M.length - 1) (by omega)
      rw [← hqe] at hc
      clear hcells hat hbw hqe
      go_wp2_with (go_at_call 17; refine (rtext_s q _ (by omega)).mono ?_; rintro e w2 ⟨rfl, rfl⟩)
      go_ret
      exact ⟨by rw [HW.out]; rfl, hb1⟩
    · have HW := Lib.hid (show provesB root s i n ps = false by rw [HV.out]; exact decide_eq_false hr)
      have hq := str_ne hr
      clear hr
      go_enter Tryd.func33, Tryd.ntmps33
      go_wp2_with fail
      refine HC.out.mono ?_
      rintro e w1 ⟨⟨bo, dap, rfl, hat⟩, hb1⟩
      obtain ⟨b, off, rfl, hbw, hcells⟩ := hat.at hM
      have hm1 : (1 : Int) ≤ (M.length : Int) := by omega
      have hm2 : (M.length : Int) ≤ 9223372036854775807 := by
        have h2 := hat.2.1
        have h3 := hat.2.2.1
        unfold maxLen at h3
        omega
      have hc := hcells _ (Below.refl _ _) (M.length - 1) (by omega)
      rw [← hqe] at hc
      clear hcells hat hbw hqe
      go_wp2_with (go_at_call 17; refine (rtext_s q _ (by omega)).mono ?_; rintro e w2 ⟨rfl, rfl⟩)
      go_ret
      exact ⟨by rw [HW.out]; rfl, hb1⟩

end Go.Proofs.YtnncfifpgjlpaaaDoor
