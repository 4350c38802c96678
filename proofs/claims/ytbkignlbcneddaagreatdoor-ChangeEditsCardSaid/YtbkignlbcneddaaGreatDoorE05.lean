/-
  Texts of the schema layer and of those beneath it, joined: AttRS, AttR2, AttR3, AttR4, AttR5. Conditions stand at each contract.
-/
import Derived.Test.YtbkignlbcneddaaGreatDoorE03
import Derived.Test.YtbkignlbcneddaaGreatDoorE04
set_option linter.unusedVariables false
set_option linter.unusedSimpArgs false
set_option linter.unnecessarySimpa false

section
/-
  Contract of the specification's Sorted: the normal form. Condition: at most 1000 attributes with at most 100000 values together, strings of at most 1100000 bytes.
-/
set_option maxRecDepth 100000
namespace Go.Proofs.YtbkignlbcneddaaGreatDoor
open Go.RowKit Go.PlainAid
theorem names_snoc (l : List At) (a : At) : names (l ++ [a]) = if a.2.length = 0 then names l else insS (names l) (lowS a.1) := by
  unfold names
  rw [List.filter_append, List.map_append]
  by_cases h : a.2.length = 0
  · have e : a.2 = [] := List.length_eq_zero_iff.1 h
    rw [if_pos h]
    have : [a].filter (fun a => !a.2.isEmpty) = [] := by simp [e]
    rw [this]; simp
  · have e : a.2 ≠ [] := fun e => h (by rw [e]; rfl)
    rw [if_neg h]
    have : [a].filter (fun a => !a.2.isEmpty) = [a] := by simp [e]
    rw [this]; exact sortU_snoc _ _
theorem names_len (l : List At) : (names l).length ≤ l.length := by
  unfold names
  refine Nat.le_trans (sortU_len _) ?_
  rw [List.length_map]; exact List.length_filter_le _ _
theorem names_asc (l : List At) : Asc (names l) := sortU_asc _
theorem lowS_small {s : ByteArray} {m : Nat} (h : s.size ≤ m) : (lowS s).size ≤ m := by rw [lowS_size]; exact h
theorem names_small {l : List At} (h : SmallA l) : SmallS (names l) := by
  intro v hv
  obtain ⟨u, a, ha, rfl, _⟩ := names_mem.1 hv
  exact lowS_small (h a ha).1
theorem vals_small {l : List At} (h : SmallA l) (n : ByteArray) : SmallS (vals l n) := by
  intro v hv
  obtain ⟨a, ha, _, hx⟩ := vals_mem.1 hv
  exact (h a ha).2 v hx
theorem nf_len (l : List At) : (nf l).length ≤ l.length := by unfold nf; rw [List.length_map]; exact names_len l
theorem nf_small {l : List At} (h : SmallA l) : SmallA (nf l) := by
  intro a ha
  unfold nf at ha
  obtain ⟨n, hn, rfl⟩ := List.mem_map.1 ha
  exact ⟨names_small h n hn, vals_small h n⟩
theorem sortU_app {X : List ByteArray} {vs : List ByteArray} {j : Nat} (h : j < vs.length) : sortU (X ++ vs.take (j + 1)) = insS (sortU (X ++ vs.take j)) (partAt vs j) := by
  rw [take_snoc vs j h, ← List.append_assoc, sortU_snoc]
theorem map_take_snoc {l : List At} {ns : List ByteArray} {i : Nat} (h : i < ns.length) {T : List Tr} (hT : tats T = (ns.take i).map fun n => (n, vals l n)) {v : Value} :
    tats (T ++ [(partAt ns i, v, vals l (partAt ns i))]) = (ns.take (i + 1)).map fun n => (n, vals l n) := by
  rw [tats_append, hT, take_snoc ns i h, List.map_append]; rfl
theorem abox_set {w : World} {b : Nat} {nm : ByteArray} {v u : Value} (h : ABox w b nm v) : ABox (w.setCell ⟨b, 1, none⟩ u) b nm u := heap_setCell_same w b 1 #[.string nm, v] 60 u h
theorem grown_set (w : World) (b i : Nat) (u : Value) : w.grownBy (w.setCell ⟨b, i, none⟩ u) (some b) :=
  ⟨rfl, rfl, rfl, by simp, fun k hk hne => heap_setCell_other w ⟨b, i, none⟩ k u (fun e => hne (by rw [e]))⟩
theorem own_set {w : World} {base b i : Nat} {v u : Value} {n : Nat} {xs : List Value} (h : w.ownsRow base 9 1 v n xs) (hb : b < base) : (w.setCell ⟨b, i, none⟩ u).ownsRow base 9 1 v n xs :=
  h.kept (grown_set w b i u) (by
    cases hv : v.ownBlock with
    | none => exact .inl rfl
    | some g => exact .inr fun e => by cases e; have := (h.lt b hv).1; omega)
/-- the values' slices are the call's own, apart from the row v -/
def TOwn (w : World) (base : Nat) (v : Value) (T : List Tr) : Prop := ∀ t ∈ T, w.ownsRow base 9 1 t.2.1 t.2.2.length (scells t.2.2) ∧ (t.2.1.ownBlock = none ∨ t.2.1.ownBlock ≠ v.ownBlock)
theorem TOwn.ok {w : World} {base : Nat} {v : Value} {T : List Tr} (h : TOwn w base v T) : TOk w T := fun t ht => hdr_owns (h t ht).1
theorem TOwn.below {w w' : World} {base : Nat} {v : Value} {T : List Tr} (h : TOwn w base v T) (hb : Below w.heap.size w w') : TOwn w' base v T := fun t ht => ⟨own_below (h t ht).1 hb, (h t ht).2⟩
theorem TOwn.mono {w : World} {base base' : Nat} {v : Value} {T : List Tr} (h : TOwn w base v T) (hb : base' ≤ base) : TOwn w base' v T := fun t ht => ⟨(h t ht).1.mono hb, (h t ht).2⟩
theorem TOwn.snoc {w : World} {base : Nat} {v : Value} {T : List Tr} (h : TOwn w base v T) {t : Tr} (ht : w.ownsRow base 9 1 t.2.1 t.2.2.length (scells t.2.2)) (hv : t.2.1.ownBlock = none ∨ t.2.1.ownBlock ≠ v.ownBlock) : TOwn w base v (T ++ [t]) :=
  fun u hu => (List.mem_append.1 hu).elim (h u) fun k => by rw [List.mem_singleton.1 k]; exact ⟨ht, hv⟩
theorem TOwn.grown {w w' : World} {base : Nat} {v v' : Value} {T : List Tr} (h : TOwn w base v T) (hg : w.grownBy w' v.ownBlock) (hl : v'.ownBlock = v.ownBlock ∨ v'.ownBlock = some w.heap.size) : TOwn w' base v' T := fun t ht => by
  obtain ⟨h1, h2⟩ := h t ht
  refine ⟨h1.kept hg h2, ?_⟩
  cases hb : t.2.1.ownBlock with
  | none => exact .inl rfl
  | some g =>
    refine .inr fun e => ?_
    rcases hl with k | k
    · rcases h2 with h2 | h2
      · rw [hb] at h2; cases h2
      · exact h2 (by rw [hb, e, k])
    · rw [k] at e
      cases e
      have := (h1.lt _ hb).2
      omega
theorem own_apart {w : World} {base : Nat} {e : TypeId} {size n m : Nat} {v u : Value} {xs ys : List Value} {e' : TypeId} {size' b0 : Nat} (h : w.ownsRow base e size v n xs) {w0 : World} (k : w0.ownsRow b0 e' size' u m ys) (hb : w0.heap.size ≤ base) : v.ownBlock = none ∨ v.ownBlock ≠ u.ownBlock := by
  cases hv : v.ownBlock with
  | none => exact .inl rfl
  | some g =>
    refine .inr fun e => ?_
    have h1 := (h.lt g hv).1
    have h2 := (k.lt g e.symm).2
    omega
theorem keep2b {w w1 w2 : World} {f : Nat} {A B : Addr} {x y : Value} (h : w1.cell? A = some x ∧ w1.cell? B = some y ∧ Hid (Below f w w1 ∧ f ≤ w1.heap.size)) (hb : Below w1.heap.size w1 w2) : w2.cell? A = some x ∧ w2.cell? B = some y ∧ Hid (Below f w w2 ∧ f ≤ w2.heap.size) :=
  ⟨cell_later hb h.1, cell_later hb h.2.1, Lib.hid ⟨h.2.2.out.1.trans (hb.mono h.2.2.out.2), Nat.le_trans h.2.2.out.2 hb.size⟩⟩
theorem keep2s {w w1 : World} {f g i : Nat} {A B : Addr} {x y u : Value} (h : w1.cell? A = some x ∧ w1.cell? B = some y ∧ Hid (Below f w w1 ∧ f ≤ w1.heap.size)) (hA : A.block < g) (hB : B.block < g) (hg : f ≤ g) : (w1.setCell ⟨g, i, none⟩ u).cell? A = some x ∧ (w1.setCell ⟨g, i, none⟩ u).cell? B = some y ∧ Hid (Below f w (w1.setCell ⟨g, i, none⟩ u) ∧ f ≤ (w1.setCell ⟨g, i, none⟩ u).heap.size) :=
  ⟨(World.cell?_of_block (heap_setCell_other w1 ⟨g, i, none⟩ A.block u (Nat.ne_of_lt hA))).trans h.1, (World.cell?_of_block (heap_setCell_other w1 ⟨g, i, none⟩ B.block u (Nat.ne_of_lt hB))).trans h.2.1, Lib.hid ⟨h.2.2.out.1.setCell (p := ⟨g, i, none⟩) hg _, by simpa using h.2.2.out.2⟩⟩
theorem keep3b {w w1 w2 : World} {f : Nat} {A B C : Addr} {x y z : Value} (h : w1.cell? A = some x ∧ w1.cell? B = some y ∧ w1.cell? C = some z ∧ Hid (Below f w w1 ∧ f ≤ w1.heap.size)) (hb : Below w1.heap.size w1 w2) : w2.cell? A = some x ∧ w2.cell? B = some y ∧ w2.cell? C = some z ∧ Hid (Below f w w2 ∧ f ≤ w2.heap.size) :=
  ⟨cell_later hb h.1, cell_later hb h.2.1, cell_later hb h.2.2.1, Lib.hid ⟨h.2.2.2.out.1.trans (hb.mono h.2.2.2.out.2), Nat.le_trans h.2.2.2.out.2 hb.size⟩⟩
theorem allV_small (l : List At) (k : Nat) (n : ByteArray) : (allV (l.take k) n).length ≤ sumV l := Nat.le_trans (allV_len n _) (sumV_take l k)
theorem abox_frozen {w : World} {b : Nat} {nm : ByteArray} {v : Value} (h : ABox w b nm v) (a : Nat) : w.frozen? ⟨b, a, none⟩ = false := by
  unfold ABox at h
  simp [World.frozen?, h]
set_option maxRecDepth 100000 in
set_option maxHeartbeats 4000000 in
theorem rsorted_s (ao : Option Addr) (n cap : Nat) (l : List At) (w : World) (h : AttrsAt w ao n cap l) (hS : SmallA l) (hV : sumV l ≤ 1100000) (hn : n ≤ 3000) :
    Calls Tryz.prog 119 #[.slice ao n cap] w fun e w' => ∃ v T, e = .returned v ∧ tats T = nf l ∧ TOwn w' w.heap.size v T ∧ w'.ownsRow w.heap.size 60 2 v T.length (tcells T) ∧ Below w.heap.size w w' := by
  obtain ⟨h1, h2, h3, h4⟩ := h
  subst h1
  unfold maxLen at h3
  have H4 := Lib.hid h4; clear h4
  have HS := Lib.hid hS; clear hS
  have HV := Lib.hid hV; clear hV
  go_enter Tryz.func119, Tryz.ntmps119
  go_wp2
  go_loopw [3, 4] (fun s3 i wr => ∃ (j : Nat), j ≤ l.length ∧ i = .int .i64 j ∧ wr.ownsRow w.heap.size 9 1 s3 (names (l.take j)).length (scells (names (l.take j))) ∧ Hid (Below w.heap.size w wr)) (fun _ i _ => l.length - (intOf i).toNat)
  case atStart => exact ⟨0, Nat.zero_le _, rfl, World.ownsRow_nil _ _ _ _, Lib.hid (Below.refl _ _)⟩
  case round =>
    obtain ⟨j, hj, rfl, hown, HB⟩ := hrel
    by_cases hlt : j < l.length
    · obtain ⟨b, off, rfl, hblt, hat⟩ := H4.out (by omega)
      obtain ⟨c0, vo, vn, vc, c1, hvs0⟩ := hat j hlt
      have c0 := cell_later HB.out c0
      have c1 := cell_later HB.out c1
      obtain ⟨a, ha⟩ : ∃ x, atD l j = x := ⟨_, rfl⟩
      have hsz := (HS.out _ (at_mem l j hlt)).1
      have HT := Lib.hid (names_snoc (l.take j) (atD l j))
      rw [← at_take l j hlt] at HT
      rw [ha] at c0 hsz hvs0 HT
      have hvl : a.2.length = vn := hvs0.1
      clear ha hat hvs0
      obtain ⟨nm, hnm⟩ : ∃ x, a.1 = x := ⟨_, rfl⟩
      rw [hnm] at c0 hsz HT
      clear hnm
      obtain ⟨o, ho⟩ : ∃ x, names (l.take j) = x := ⟨_, rfl⟩
      have HOA := Lib.hid (show Asc o by rw [← ho]; exact names_asc _)
      have hol : o.length ≤ 3000 := by rw [← ho]; have := names_len (l.take j); rw [List.length_take] at this; omega
      rw [ho] at hown HT
      clear ho
      have d1 : (j : Int) < (l.length : Int) := by omega
      by_cases hv0 : vn = 0
      · have d2 : decide ((0 : Int) < (vn : Int)) = false := decide_eq_false (by omega)
        have HT2 := Lib.hid (show names (l.take (j + 1)) = o by rw [HT.out, if_pos (by omega)])
        go_wp2_with fail
        go_roundw
        case rel => exact ⟨j + 1, by omega, by go_num, by rw [HT2.out]; exact hown, HB⟩
        case measure => simp [intOf]; omega
      · have d2 : decide ((0 : Int) < (vn : Int)) = true := decide_eq_true (by omega)
        have HT2 := Lib.hid (show names (l.take (j + 1)) = insS o (lowS nm) by rw [HT.out, if_neg (by omega)])
        obtain ⟨so, scap, rfl, hso⟩ := strs_own hown rfl
        have HSO := Lib.hid hso
        clear hso HT
        go_wp2_with fail
        refine (rLower_s nm _ (by omega)).mono ?_
        rintro e w1 ⟨rfl, hb1⟩
        have HB1 := Lib.hid (HB.out.trans (hb1.mono HB.out.size))
        have HSO1 := Lib.hid (HSO.out.below hb1)
        clear hb1
        go_wp2_with fail
        refine (insert_s _ _ _ o (lowS nm) w1 HSO1.out (by omega) HOA.out).mono ?_
        rintro e w2 ⟨v2, rfl, hown2, hb2⟩
        have HB2 := Lib.hid (HB1.out.trans (hb2.mono HB1.out.size))
        have hown3 := hown2.mono HB1.out.size
        clear hb2 hown2
        go_wp2_with fail
        go_roundw
        case rel => exact ⟨j + 1, by omega, by go_num, by rw [HT2.out]; exact hown3, HB2⟩
        case measure => simp [intOf]; omega
    · obtain rfl : j = l.length := by omega
      rw [List.take_length] at hown
      obtain ⟨ns, hns⟩ : ∃ x, names l = x := ⟨_, rfl⟩
      have hnl : ns.length ≤ 3000 := by rw [← hns]; have := names_len l; omega
      rw [hns] at hown
      have HNF := Lib.hid (show nf l = ns.map fun n => (n, vals l n) by rw [← hns]; rfl)
      clear hns
      obtain ⟨so, scap, rfl, hso⟩ := strs_own hown rfl
      have HSO := Lib.hid hso
      clear hso hown
      obtain ⟨wa, hwa⟩ : ∃ x, x = wr := ⟨_, rfl⟩
      subst hwa
      go_wp2
      go_loopw [5, 6, 7, 8, 9] (fun v iv s7 s8 s9 wr => ∃ (i : Nat) (T : List Tr), i ≤ ns.length ∧ iv = .int .i64 i ∧ T.length = i ∧ Hid (tats T = (ns.take i).map fun n => (n, vals l n)) ∧ Hid (TOwn wr wa.heap.size v T) ∧ wr.ownsRow wa.heap.size 60 2 v T.length (tcells T) ∧ Hid (Below wa.heap.size wa wr)) (fun _ iv _ _ _ _ => ns.length - (intOf iv).toNat)
      case atStart => exact ⟨0, [], Nat.zero_le _, rfl, rfl, Lib.hid (by simp [tats]), Lib.hid (fun t ht => (List.not_mem_nil ht).elim), World.ownsRow_nil _ _ _ _, Lib.hid (Below.refl _ _)⟩
      case round =>
        obtain ⟨i, T, hi, rfl, hTl, HTT, HTK, hownT, HB2⟩ := hrel
        by_cases hli : i < ns.length
        · obtain ⟨sb, soff, rfl, hs⟩ := HSO.out.2.2.2 (by omega)
          have hcell := (hs.below HB2.out hs.1).2 i hli
          have hsb := hs.1
          obtain ⟨nm, hnm⟩ : ∃ x, partAt ns i = x := ⟨_, rfl⟩
          rw [hnm] at hcell
          have HMT := Lib.hid (fun (v : Value) => map_take_snoc hli HTT.out (v := v))
          rw [hnm] at HMT
          clear hs hnm
          have e1 : (i : Int) < (ns.length : Int) := by omega
          have HB2w := Lib.hid (HB.out.trans (HB2.out.mono HB.out.size))
          go_wp2_with fail
          obtain ⟨wb, hwb⟩ : ∃ x, x = wr := ⟨_, rfl⟩
          subst hwb
          have hsb2 : sb < wb.heap.size := Nat.lt_of_lt_of_le hsb HB2.out.size
          obtain ⟨W1, hW1⟩ : ∃ W1, wb.alloc (.cells #[.string nm, .slice none 0 0] 60) = W1 := ⟨_, rfl⟩
          have X1 : ABox W1 wb.heap.size nm (.slice none 0 0) := by rw [← hW1]; exact abox_new wb nm _
          have HBb := Lib.hid (show Below wb.heap.size wb W1 by rw [← hW1]; exact (Below.refl _ wb).alloc (Nat.le_refl _) _)
          have HZ := Lib.hid (World.ownsRow_nil W1 wb.heap.size 9 1)
          rw [hW1]
          clear hW1
          go_loopw [8, 9] (fun kv jv wr => ∃ (k : Nat) (hd : Value), k ≤ l.length ∧ kv = .int .i64 k ∧ Hid (ABox wr wb.heap.size nm hd) ∧ Hid (wr.ownsRow wb.heap.size 9 1 hd (sortU (allV (l.take k) nm)).length (scells (sortU (allV (l.take k) nm)))) ∧ Hid (Below wb.heap.size wb wr)) (fun kv _ _ => l.length - (intOf kv).toNat)
          case atStart => exact ⟨0, _, Nat.zero_le _, rfl, Lib.hid X1, HZ, HBb⟩
          case round =>
            obtain ⟨k, hd, hk, rfl, HX, HH, HB3⟩ := hrel
            by_cases hlk : k < l.length
            · obtain ⟨b, off, rfl, hblt, hat⟩ := H4.out (by omega)
              obtain ⟨c0, vo, vn, vc, c1, hvs0⟩ := hat k hlk
              have HB3w := Lib.hid (HB2w.out.trans (HB3.out.mono HB2w.out.size))
              have hblt2 : b < wb.heap.size := Nat.lt_of_lt_of_le hblt HB2w.out.size
              have hcn := (HB3.out.cell (p := ⟨sb, soff + i, none⟩) hsb2).trans hcell
              have c0 := cell_later HB3w.out c0
              have c1 := cell_later HB3w.out c1
              obtain ⟨a, ha⟩ : ∃ x, atD l k = x := ⟨_, rfl⟩
              have hsz := (HS.out _ (at_mem l k hlk)).1
              have HTV := Lib.hid (show allV (l.take (k + 1)) nm = allV (l.take k) nm ++ (if lowS (atD l k).1 = nm then (atD l k).2 else []) by rw [at_take l k hlk]; exact allV_snoc _ _ _)
              have HAL := Lib.hid (allV_small l (k + 1) nm)
              rw [ha] at c0 hsz hvs0 HTV
              have hvl : a.2.length = vn := hvs0.1
              have HVS := Lib.hid (hvs0.2.2.2)
              have HVW := Lib.hid hvs0
              clear ha hat hvs0
              obtain ⟨p, hp⟩ : ∃ x, a.1 = x := ⟨_, rfl⟩
              obtain ⟨vs, hvs⟩ : ∃ x, a.2 = x := ⟨_, rfl⟩
              rw [hp] at c0 hsz HTV
              rw [hvs] at HTV HVS hvl HVW
              clear hp hvs
              obtain ⟨X, hX⟩ : ∃ x, allV (l.take k) nm = x := ⟨_, rfl⟩
              rw [hX] at HH HTV
              clear hX
              obtain ⟨lw, hlw⟩ : ∃ x, lowS p = x := ⟨_, rfl⟩
              rw [hlw] at HTV
              have HLW := Lib.hid hlw
              clear hlw
              have e2 : (k : Int) < (l.length : Int) := by omega
              have hvm : vn ≤ 9223372036854775807 := Nat.le_trans HVW.out.2.1 HVW.out.2.2.1
              go_wp2_with fail
              obtain ⟨wc, hwc⟩ : ∃ x, x = wr := ⟨_, rfl⟩
              subst hwc
              go_loopw [9] (fun jv wr => ∃ (j : Nat) (hd : Value), j ≤ vs.length ∧ (lw ≠ nm → j = 0) ∧ jv = .int .i64 j ∧ Hid (ABox wr wb.heap.size nm hd) ∧ Hid (wr.ownsRow wb.heap.size 9 1 hd (sortU (X ++ vs.take j)).length (scells (sortU (X ++ vs.take j)))) ∧ Hid (Below wb.heap.size wb wr)) (fun jv _ => vs.length - (intOf jv).toNat)
              case atStart => exact ⟨0, hd, Nat.zero_le _, fun _ => rfl, rfl, HX, by rw [List.take_zero, List.append_nil]; exact HH, HB3⟩
              case round =>
                obtain ⟨j, hd, hj, hj0, rfl, HX, HH, HB4⟩ := hrel
                have HB4w := Lib.hid (HB2w.out.trans (HB4.out.mono HB2w.out.size))
                have c0 := (HB4.out.cell (p := ⟨b, off + k * 2, none⟩) hblt2).trans ((HB3.out.cell (p := ⟨b, off + k * 2, none⟩) hblt2).symm.trans c0)
                have c1 := (HB4.out.cell (p := ⟨b, off + k * 2 + 1, none⟩) hblt2).trans ((HB3.out.cell (p := ⟨b, off + k * 2 + 1, none⟩) hblt2).symm.trans c1)
                have hcn := (HB4.out.cell (p := ⟨sb, soff + i, none⟩) hsb2).trans ((HB3.out.cell (p := ⟨sb, soff + i, none⟩) hsb2).symm.trans hcn)
                have HBd : Hid (Below wr.heap.size wr wr.drew ∧ wr.heap.size ≤ wr.drew.heap.size) := Lib.hid ⟨(Below.refl _ wr).drew, Nat.le_refl _⟩
                have HBe : Hid (Below wb.heap.size wb wr.drew ∧ wb.heap.size ≤ wr.drew.heap.size) := Lib.hid ⟨HB4.out.drew, HB4.out.size⟩
                by_cases hlw : lw = nm
                · have q1 : (lw.toList == nm.toList) = true := by rw [str_eq]; exact decide_eq_true hlw
                  rw [if_pos hlw] at HTV
                  by_cases hlj : j < vs.length
                  · have d3 : (j : Int) < (vn : Int) := by omega
                    obtain ⟨vb, voff, rfl, hvb, hvc⟩ := HVS.out (by omega)
                    have hvb2 : vb < wb.heap.size := Nat.lt_of_lt_of_le hvb HB2w.out.size
                    have hcv := cell_later HB4w.out (hvc j hlj)
                    clear hvc
                    have HIN := Lib.hid (sortU_app (X := X) hlj)
                    obtain ⟨y, hy⟩ : ∃ x, partAt vs j = x := ⟨_, rfl⟩
                    rw [hy] at hcv HIN
                    clear hy
                    obtain ⟨hnn, hhn⟩ : ∃ x, (sortU (X ++ vs.take j)).length = x := ⟨_, rfl⟩
                    have HHN := HH.out
                    rw [hhn] at HHN
                    obtain ⟨ho, hcap, rfl, hHS⟩ := strs_own HHN hhn
                    clear HHN
                    have hle : hnn ≤ 1100000 := by
                      have h5 := HAL.out
                      have h6 := HV.out
                      rw [HTV.out, List.length_append] at h5
                      have h7 := sortU_len (X ++ vs.take j)
                      rw [hhn, List.length_append, List.length_take] at h7
                      omega
                    have HHS := Lib.hid hHS
                    clear hHS
                    go_wp2_with fail
                    go_region_held3 (fun W => W.cell? ⟨b, off + k * 2, none⟩ = some (.string p) ∧ W.cell? ⟨b, off + k * 2 + 1, none⟩ = some (.slice (some ⟨vb, voff, none⟩) vn vc) ∧ W.cell? ⟨sb, soff + i, none⟩ = some (.string nm) ∧ Hid (Below wb.heap.size wb W ∧ wb.heap.size ≤ W.heap.size))
                      (first | exact ⟨c0, c1, hcn, HBe⟩ | exact keep3b (by assumption) hb | go_keep)
                      ((go_at_call 59; with_reducible refine (rLower_s p _ (by omega)).mono ?_; rintro e w5 ⟨rfl, hb⟩; rw [HLW.out]))
                    have HB5 : Hid (Below wr.heap.size wr w5) := Lib.hid ((Below.refl wr.heap.size wr).drew.trans hb)
                    have HX5 := HX.out.below HB5.out
                    have HHd : Hid (StrsAt w5.drew ho hnn hcap (sortU (X ++ vs.take j))) := Lib.hid ((HHS.out.below HB5.out).below (Below.refl _ w5).drew)
                    have c15 := (HB5.out.cell (p := ⟨b, off + k * 2 + 1, none⟩) (Nat.lt_of_lt_of_le hblt2 HB4.out.size)).trans c1
                    have hcv5 := (HB5.out.cell (p := ⟨vb, voff + j, none⟩) (Nat.lt_of_lt_of_le hvb2 HB4.out.size)).trans hcv
                    have HB5d : Hid (Below wb.heap.size wb w5.drew ∧ wb.heap.size ≤ w5.drew.heap.size) := Lib.hid ⟨(HB4.out.trans (HB5.out.mono HB4.out.size)).drew, Nat.le_trans HB4.out.size HB5.out.size⟩
                    have cxd : w5.drew.cell? ⟨wb.heap.size, 1, none⟩ = some (.slice ho hnn hcap) := HX5.cells.2
                    have hXlt : wb.heap.size < w5.heap.size := HX5.lt
                    go_wp2_with fail
                    refine wp_region_held_drew (S := fun W => W.cell? ⟨b, off + k * 2 + 1, none⟩ = some (.slice (some ⟨vb, voff, none⟩) vn vc) ∧ W.cell? ⟨vb, voff + j, none⟩ = some (.string y) ∧ Hid (Below wb.heap.size wb W ∧ wb.heap.size ≤ W.heap.size)) (by kernel_rfl) (⟨c15, hcv5, HB5d⟩) (fun hS => ?_)
                    refine wpAnyH_take (i := 0) (oi := { dst := some 71, op := _, type := _, pos := _, after := _, guard := _ }) (v := ?_) rfl (by kernel_rfl) (by kernel_rfl) (by kernel_rfl) (fun _ _ _ h => h) (Or.inl ⟨by rfl, ?_⟩) (by assumption) ?_
                    rotate_left
                    · intro w hSw
                      try dsimp only at hSw
                      go_simp
                      try with_reducible rfl
                    try simp only [Act.put, List.setIfInBounds_toArray, List.set_cons_zero, List.set_cons_succ]
                    refine wpAnyH_take (i := 2) (oi := { dst := some 73, op := _, type := _, pos := _, after := _, guard := _ }) (v := ?_) rfl (by kernel_rfl) (by kernel_rfl) (by kernel_rfl) (fun _ _ _ h => h) (Or.inl ⟨by rfl, ?_⟩) (by assumption) ?_
                    rotate_left
                    · intro w hSw
                      try dsimp only at hSw
                      go_simp
                      try with_reducible rfl
                    try simp only [Act.put, List.setIfInBounds_toArray, List.set_cons_zero, List.set_cons_succ]
                    refine wpAnyH_take (i := 3) (oi := { dst := some 74, op := _, type := _, pos := _, after := _, guard := _ }) (v := ?_) rfl (by kernel_rfl) (by kernel_rfl) (by kernel_rfl) (fun _ _ _ h => h) (Or.inl ⟨by rfl, ?_⟩) (by assumption) ?_
                    rotate_left
                    · intro w hSw
                      try dsimp only at hSw
                      go_simp
                      try with_reducible rfl
                    try simp only [Act.put, List.setIfInBounds_toArray, List.set_cons_zero, List.set_cons_succ]
                    refine wpAnyH_take (i := 4) (oi := { dst := some 75, op := _, type := _, pos := _, after := _, guard := _ }) (v := ?_) rfl (by kernel_rfl) (by kernel_rfl) (by kernel_rfl) (fun _ _ _ h => h) (Or.inl ⟨by rfl, ?_⟩) (by assumption) ?_
                    rotate_left
                    · intro w hSw
                      try dsimp only at hSw
                      go_simp
                      try with_reducible rfl
                    try simp only [Act.put, List.setIfInBounds_toArray, List.set_cons_zero, List.set_cons_succ]
                    refine wpAnyH_take (i := 5) (oi := { dst := some 76, op := _, type := _, pos := _, after := _, guard := _ }) (v := ?_) rfl (by kernel_rfl) (by kernel_rfl) (by kernel_rfl) (fun _ _ _ h => h) (Or.inl ⟨by rfl, ?_⟩) (by assumption) ?_
                    rotate_left
                    · intro w hSw
                      try dsimp only at hSw
                      go_simp
                      try with_reducible rfl
                    try simp only [Act.put, List.setIfInBounds_toArray, List.set_cons_zero, List.set_cons_succ]
                    refine wpAnyH_take (i := 6) (oi := { dst := some 77, op := _, type := _, pos := _, after := _, guard := _ }) (v := ?_) rfl (by kernel_rfl) (by kernel_rfl) (by kernel_rfl) (fun _ _ _ h => h) (Or.inl ⟨by rfl, ?_⟩) (by assumption) ?_
                    rotate_left
                    · intro w hSw
                      try dsimp only at hSw
                      go_simp
                      try with_reducible rfl
                    try simp only [Act.put, List.setIfInBounds_toArray, List.set_cons_zero, List.set_cons_succ]
                    refine wpAnyH_take (i := 7) (oi := { dst := some 78, op := _, type := _, pos := _, after := _, guard := _ }) (v := ?_) rfl (by kernel_rfl) (by kernel_rfl) (by kernel_rfl) (fun _ _ _ h => h) (Or.inl ⟨by rfl, ?_⟩) (by assumption) ?_
                    rotate_left
                    · intro w hSw
                      try dsimp only at hSw
                      go_simp
                      try with_reducible rfl
                    try simp only [Act.put, List.setIfInBounds_toArray, List.set_cons_zero, List.set_cons_succ]
                    refine wpAnyH_take (i := 8) (oi := { dst := some 79, op := _, type := _, pos := _, after := _, guard := _ }) (v := ?_) rfl (by kernel_rfl) (by kernel_rfl) (by kernel_rfl) (fun _ _ _ h => h) (Or.inl ⟨by rfl, ?_⟩) (by assumption) ?_
                    rotate_left
                    · intro w hSw
                      try dsimp only at hSw
                      go_simp
                      try with_reducible rfl
                    try simp only [Act.put, List.setIfInBounds_toArray, List.set_cons_zero, List.set_cons_succ]
                    refine wpAnyH_take (i := 9) (oi := { dst := some 80, op := _, type := _, pos := _, after := _, guard := _ }) (v := ?_) rfl (by kernel_rfl) (by kernel_rfl) (by kernel_rfl) (fun _ _ _ h => h) (Or.inl ⟨by rfl, ?_⟩) (by assumption) ?_
                    rotate_left
                    · intro w hSw
                      try dsimp only at hSw
                      go_simp
                      try with_reducible rfl
                    try simp only [Act.put, List.setIfInBounds_toArray, List.set_cons_zero, List.set_cons_succ]
                    refine wpAnyH_ready (rs := [1]) (by kernel_rfl) (by simp) ?_
                    refine AllReadyH.cons rfl (fun K hK => ?_) AllReadyH.nil
                    go_simp
                    refine hK.out _ _ ?_ (fun hHeld => ?_)
                    · exact hS
                    clear hK K
                    try simp only [Act.put, List.setIfInBounds_toArray, List.set_cons_zero, List.set_cons_succ]
                    refine wpAnyH_ready (rs := [10]) (by kernel_rfl) (by simp) ?_
                    refine AllReadyH.cons rfl (fun K hK => ?_) AllReadyH.nil
                    go_simp
                    refine (insert_s ho hnn hcap _ y _ HHd.out (by omega) (sortU_asc _)).mono ?_
                    rintro e w6 ⟨v6, rfl, hown6, hb2⟩
                    obtain ⟨o6, p6, rfl, hs6⟩ := strs_own hown6 rfl
                    clear hs6
                    have HX6 : ABox w6 wb.heap.size nm (.slice ho hnn hcap) := (HX5.below (Below.refl _ w5).drew).below hb2
                    have cx6 := HX6.cells.2
                    have fx6 := abox_frozen HX6 1
                    go_wp2_with fail
                    refine hK.out _ _ ?_ (fun hHeld => ?_)
                    · exact keep2b (by assumption) hb2
                    clear hK K
                    try simp only [Act.put, List.setIfInBounds_toArray, List.set_cons_zero, List.set_cons_succ]
                    refine wpAnyH_take (i := 11) (oi := { dst := some 82, op := _, type := _, pos := _, after := _, guard := _ }) (v := ?_) rfl (by kernel_rfl) (by kernel_rfl) (by kernel_rfl) (fun _ _ _ h => h) (Or.inl ⟨by rfl, ?_⟩) (by assumption) ?_
                    rotate_left
                    · intro w hSw
                      try dsimp only at hSw
                      go_simp
                      try with_reducible rfl
                    try simp only [Act.put, List.setIfInBounds_toArray, List.set_cons_zero, List.set_cons_succ]
                    refine wpAnyH_ready (rs := [12]) (by kernel_rfl) (by simp) ?_
                    refine AllReadyH.cons rfl (fun K hK => ?_) AllReadyH.nil
                    go_simp
                    refine hK.out _ _ ?_ (fun hHeld => ?_)
                    · exact keep2s (by assumption) hblt2 hvb2 (Nat.le_refl _)
                    clear hK K
                    try simp only [Act.put, List.setIfInBounds_toArray, List.set_cons_zero, List.set_cons_succ]
                    refine wpAnyH_done (by kernel_rfl) ?_ _
                    have HS7 : Hid (Below wb.heap.size wb (w6.setCell ⟨wb.heap.size, 1, none⟩ (Value.slice o6 (insS (sortU (X ++ List.take j vs)) y).length p6))) := Lib.hid ((And.right (And.right (by assumption : (w6.setCell ⟨wb.heap.size, 1, none⟩ (Value.slice o6 (insS (sortU (X ++ List.take j vs)) y).length p6)).cell? ⟨b, off + k * 2 + 1, none⟩ = some (.slice (some ⟨vb, voff, none⟩) vn vc) ∧ (w6.setCell ⟨wb.heap.size, 1, none⟩ (Value.slice o6 (insS (sortU (X ++ List.take j vs)) y).length p6)).cell? ⟨vb, voff + j, none⟩ = some (.string y) ∧ Hid (Below wb.heap.size wb (w6.setCell ⟨wb.heap.size, 1, none⟩ (Value.slice o6 (insS (sortU (X ++ List.take j vs)) y).length p6)) ∧ wb.heap.size ≤ (w6.setCell ⟨wb.heap.size, 1, none⟩ (Value.slice o6 (insS (sortU (X ++ List.take j vs)) y).length p6)).heap.size)))).out.1)
                    have HX7 := Lib.hid (abox_set (u := (Value.slice o6 (insS (sortU (X ++ List.take j vs)) y).length p6)) HX6)
                    have HH7 := Lib.hid (own_set (b := wb.heap.size) (i := 1) (u := (Value.slice o6 (insS (sortU (X ++ List.take j vs)) y).length p6)) hown6 hXlt)
                    clear cx6 fx6 HX6
                    go_wp2_with fail
                    go_roundw
                    case rel => exact ⟨j + 1, (Value.slice o6 (insS (sortU (X ++ List.take j vs)) y).length p6), by omega, fun e => absurd hlw e, by go_num, HX7, by rw [HIN.out]; exact Lib.hid (HH7.out.mono (Nat.le_of_lt hXlt)), HS7⟩
                    case measure => simp [intOf]; omega
                  · have d3 : decide ((j : Int) < (vn : Int)) = false := decide_eq_false (by omega)
                    have HE : Hid (sortU (X ++ vs.take j) = sortU (allV (l.take (k + 1)) nm)) := Lib.hid (by rw [HTV.out, List.take_of_length_le (by omega)])
                    go_wp2_with fail
                    go_region_held3 (fun W => W.cell? ⟨b, off + k * 2, none⟩ = some (.string p) ∧ W.cell? ⟨b, off + k * 2 + 1, none⟩ = some (.slice vo vn vc) ∧ W.cell? ⟨sb, soff + i, none⟩ = some (.string nm) ∧ Hid (Below wb.heap.size wb W ∧ wb.heap.size ≤ W.heap.size))
                      (first | exact ⟨c0, c1, hcn, HBe⟩ | exact keep3b (by assumption) hb | go_keep)
                      ((go_at_call 59; with_reducible refine (rLower_s p _ (by omega)).mono ?_; rintro e w5 ⟨rfl, hb⟩; rw [HLW.out]))
                    have HB5 : Hid (Below wr.heap.size wr w5) := Lib.hid ((Below.refl wr.heap.size wr).drew.trans hb)
                    have HX5 := Lib.hid (HX.out.below HB5.out)
                    have HH5 := Lib.hid (own_below HH.out HB5.out)
                    rw [HE.out] at HH5
                    have HB6 := Lib.hid (HB4.out.trans (HB5.out.mono HB4.out.size))
                    go_wp2_with fail
                    go_roundw
                    case rel => exact ⟨k + 1, hd, by omega, by go_num, HX5, HH5, HB6⟩
                    case measure => simp [intOf]; omega
                · have q1 : (lw.toList == nm.toList) = false := by rw [str_eq]; exact decide_eq_false hlw
                  rw [if_neg hlw, List.append_nil] at HTV
                  obtain rfl : j = 0 := hj0 hlw
                  rw [List.take_zero, List.append_nil] at HH
                  go_wp2_with fail
                  refine wp_region_held_drew (S := fun W => W.cell? ⟨b, off + k * 2, none⟩ = some (.string p) ∧ W.cell? ⟨sb, soff + i, none⟩ = some (.string nm) ∧ Hid (Below wb.heap.size wb W ∧ wb.heap.size ≤ W.heap.size)) (by kernel_rfl) (⟨c0, hcn, HBe⟩) (fun hS => ?_)
                  refine wpAnyH_take (i := 0) (oi := { dst := some 48, op := _, type := _, pos := _, after := _, guard := _ }) (v := ?_) rfl (by kernel_rfl) (by kernel_rfl) (by kernel_rfl) (fun _ _ _ h => h) (Or.inl ⟨by rfl, ?_⟩) (by assumption) ?_
                  rotate_left
                  · intro w hSw
                    try dsimp only at hSw
                    go_simp
                    try with_reducible rfl
                  try simp only [Act.put, List.setIfInBounds_toArray, List.set_cons_zero, List.set_cons_succ]
                  refine wpAnyH_take (i := 1) (oi := { dst := some 49, op := _, type := _, pos := _, after := _, guard := _ }) (v := ?_) rfl (by kernel_rfl) (by kernel_rfl) (by kernel_rfl) (fun _ _ _ h => h) (Or.inl ⟨by rfl, ?_⟩) (by assumption) ?_
                  rotate_left
                  · intro w hSw
                    try dsimp only at hSw
                    go_simp
                    try with_reducible rfl
                  try simp only [Act.put, List.setIfInBounds_toArray, List.set_cons_zero, List.set_cons_succ]
                  refine wpAnyH_take (i := 2) (oi := { dst := some 50, op := _, type := _, pos := _, after := _, guard := _ }) (v := ?_) rfl (by kernel_rfl) (by kernel_rfl) (by kernel_rfl) (fun _ _ _ h => h) (Or.inl ⟨by rfl, ?_⟩) (by assumption) ?_
                  rotate_left
                  · intro w hSw
                    try dsimp only at hSw
                    go_simp
                    try with_reducible rfl
                  try simp only [Act.put, List.setIfInBounds_toArray, List.set_cons_zero, List.set_cons_succ]
                  refine wpAnyH_take (i := 3) (oi := { dst := some 51, op := _, type := _, pos := _, after := _, guard := _ }) (v := ?_) rfl (by kernel_rfl) (by kernel_rfl) (by kernel_rfl) (fun _ _ _ h => h) (Or.inl ⟨by rfl, ?_⟩) (by assumption) ?_
                  rotate_left
                  · intro w hSw
                    try dsimp only at hSw
                    go_simp
                    try with_reducible rfl
                  try simp only [Act.put, List.setIfInBounds_toArray, List.set_cons_zero, List.set_cons_succ]
                  refine wpAnyH_take (i := 4) (oi := { dst := some 52, op := _, type := _, pos := _, after := _, guard := _ }) (v := ?_) rfl (by kernel_rfl) (by kernel_rfl) (by kernel_rfl) (fun _ _ _ h => h) (Or.inl ⟨by rfl, ?_⟩) (by assumption) ?_
                  rotate_left
                  · intro w hSw
                    try dsimp only at hSw
                    go_simp
                    try with_reducible rfl
                  try simp only [Act.put, List.setIfInBounds_toArray, List.set_cons_zero, List.set_cons_succ]
                  refine wpAnyH_take (i := 6) (oi := { dst := some 54, op := _, type := _, pos := _, after := _, guard := _ }) (v := ?_) rfl (by kernel_rfl) (by kernel_rfl) (by kernel_rfl) (fun _ _ _ h => h) (Or.inl ⟨by rfl, ?_⟩) (by assumption) ?_
                  rotate_left
                  · intro w hSw
                    try dsimp only at hSw
                    go_simp
                    try with_reducible rfl
                  try simp only [Act.put, List.setIfInBounds_toArray, List.set_cons_zero, List.set_cons_succ]
                  refine wpAnyH_take (i := 7) (oi := { dst := some 55, op := _, type := _, pos := _, after := _, guard := _ }) (v := ?_) rfl (by kernel_rfl) (by kernel_rfl) (by kernel_rfl) (fun _ _ _ h => h) (Or.inl ⟨by rfl, ?_⟩) (by assumption) ?_
                  rotate_left
                  · intro w hSw
                    try dsimp only at hSw
                    go_simp
                    try with_reducible rfl
                  try simp only [Act.put, List.setIfInBounds_toArray, List.set_cons_zero, List.set_cons_succ]
                  refine wpAnyH_take (i := 8) (oi := { dst := some 56, op := _, type := _, pos := _, after := _, guard := _ }) (v := ?_) rfl (by kernel_rfl) (by kernel_rfl) (by kernel_rfl) (fun _ _ _ h => h) (Or.inl ⟨by rfl, ?_⟩) (by assumption) ?_
                  rotate_left
                  · intro w hSw
                    try dsimp only at hSw
                    go_simp
                    try with_reducible rfl
                  try simp only [Act.put, List.setIfInBounds_toArray, List.set_cons_zero, List.set_cons_succ]
                  refine wpAnyH_take (i := 9) (oi := { dst := some 57, op := _, type := _, pos := _, after := _, guard := _ }) (v := ?_) rfl (by kernel_rfl) (by kernel_rfl) (by kernel_rfl) (fun _ _ _ h => h) (Or.inl ⟨by rfl, ?_⟩) (by assumption) ?_
                  rotate_left
                  · intro w hSw
                    try dsimp only at hSw
                    go_simp
                    try with_reducible rfl
                  try simp only [Act.put, List.setIfInBounds_toArray, List.set_cons_zero, List.set_cons_succ]
                  refine wpAnyH_ready (rs := [5]) (by kernel_rfl) (by simp) ?_
                  refine AllReadyH.cons rfl (fun K hK => ?_) AllReadyH.nil
                  go_simp
                  refine (rLower_s p _ (by omega)).mono ?_
                  rintro e w5 ⟨rfl, hb⟩
                  rw [HLW.out]
                  go_wp2_with fail
                  refine hK.out _ _ ?_ (fun hHeld => ?_)
                  · exact keep2b (by assumption) hb
                  clear hK K
                  try simp only [Act.put, List.setIfInBounds_toArray, List.set_cons_zero, List.set_cons_succ]
                  refine wpAnyH_take (i := 10) (oi := { dst := some 58, op := _, type := _, pos := _, after := _, guard := _ }) (v := ?_) rfl (by kernel_rfl) (by kernel_rfl) (by kernel_rfl) (fun _ _ _ h => h) (Or.inl ⟨by rfl, ?_⟩) (by assumption) ?_
                  rotate_left
                  · intro w hSw
                    try dsimp only at hSw
                    go_simp
                    try with_reducible rfl
                  try simp only [Act.put, List.setIfInBounds_toArray, List.set_cons_zero, List.set_cons_succ]
                  refine wpAnyH_take (i := 11) (oi := { dst := some 59, op := _, type := _, pos := _, after := _, guard := _ }) (v := ?_) rfl (by kernel_rfl) (by kernel_rfl) (by kernel_rfl) (fun _ _ _ h => h) (Or.inl ⟨by rfl, ?_⟩) (by assumption) ?_
                  rotate_left
                  · intro w hSw
                    try dsimp only at hSw
                    go_simp
                    try with_reducible rfl
                  try simp only [Act.put, List.setIfInBounds_toArray, List.set_cons_zero, List.set_cons_succ]
                  refine wpAnyH_take (i := 12) (oi := { dst := some 60, op := _, type := _, pos := _, after := _, guard := _ }) (v := undef) rfl (by kernel_rfl) (by kernel_rfl) (by kernel_rfl) (fun _ _ _ h => h) (Or.inr ⟨by rfl, rfl⟩) (by assumption) ?_
                  try simp only [Act.put, List.setIfInBounds_toArray, List.set_cons_zero, List.set_cons_succ]
                  refine wpAnyH_take (i := 13) (oi := { dst := some 61, op := _, type := _, pos := _, after := _, guard := _ }) (v := undef) rfl (by kernel_rfl) (by kernel_rfl) (by kernel_rfl) (fun _ _ _ h => h) (Or.inr ⟨by rfl, rfl⟩) (by assumption) ?_
                  try simp only [Act.put, List.setIfInBounds_toArray, List.set_cons_zero, List.set_cons_succ]
                  refine wpAnyH_take (i := 14) (oi := { dst := some 62, op := _, type := _, pos := _, after := _, guard := _ }) (v := undef) rfl (by kernel_rfl) (by kernel_rfl) (by kernel_rfl) (fun _ _ _ h => h) (Or.inr ⟨by rfl, rfl⟩) (by assumption) ?_
                  try simp only [Act.put, List.setIfInBounds_toArray, List.set_cons_zero, List.set_cons_succ]
                  refine wpAnyH_take (i := 15) (oi := { dst := some 63, op := _, type := _, pos := _, after := _, guard := _ }) (v := undef) rfl (by kernel_rfl) (by kernel_rfl) (by kernel_rfl) (fun _ _ _ h => h) (Or.inr ⟨by rfl, rfl⟩) (by assumption) ?_
                  try simp only [Act.put, List.setIfInBounds_toArray, List.set_cons_zero, List.set_cons_succ]
                  refine wpAnyH_take (i := 16) (oi := { dst := some 64, op := _, type := _, pos := _, after := _, guard := _ }) (v := undef) rfl (by kernel_rfl) (by kernel_rfl) (by kernel_rfl) (fun _ _ _ h => h) (Or.inr ⟨by rfl, rfl⟩) (by assumption) ?_
                  try simp only [Act.put, List.setIfInBounds_toArray, List.set_cons_zero, List.set_cons_succ]
                  refine wpAnyH_take (i := 17) (oi := { dst := some 65, op := _, type := _, pos := _, after := _, guard := _ }) (v := undef) rfl (by kernel_rfl) (by kernel_rfl) (by kernel_rfl) (fun _ _ _ h => h) (Or.inr ⟨by rfl, rfl⟩) (by assumption) ?_
                  try simp only [Act.put, List.setIfInBounds_toArray, List.set_cons_zero, List.set_cons_succ]
                  refine wpAnyH_take (i := 18) (oi := { dst := some 66, op := _, type := _, pos := _, after := _, guard := _ }) (v := undef) rfl (by kernel_rfl) (by kernel_rfl) (by kernel_rfl) (fun _ _ _ h => h) (Or.inr ⟨by rfl, rfl⟩) (by assumption) ?_
                  try simp only [Act.put, List.setIfInBounds_toArray, List.set_cons_zero, List.set_cons_succ]
                  refine wpAnyH_take (i := 19) (oi := { dst := some 67, op := _, type := _, pos := _, after := _, guard := _ }) (v := undef) rfl (by kernel_rfl) (by kernel_rfl) (by kernel_rfl) (fun _ _ _ h => h) (Or.inr ⟨by rfl, rfl⟩) (by assumption) ?_
                  try simp only [Act.put, List.setIfInBounds_toArray, List.set_cons_zero, List.set_cons_succ]
                  refine wpAnyH_take (i := 20) (oi := { dst := some 68, op := _, type := _, pos := _, after := _, guard := _ }) (v := ?_) rfl (by kernel_rfl) (by kernel_rfl) (by kernel_rfl) (fun _ _ _ h => h) (Or.inl ⟨by rfl, ?_⟩) (by assumption) ?_
                  rotate_left
                  · intro w hSw
                    try dsimp only at hSw
                    go_simp
                    try with_reducible rfl
                  try simp only [Act.put, List.setIfInBounds_toArray, List.set_cons_zero, List.set_cons_succ]
                  refine wpAnyH_done (by kernel_rfl) ?_ _
                  have HB5 : Hid (Below wr.heap.size wr w5) := Lib.hid ((Below.refl wr.heap.size wr).drew.trans hb)
                  have HX5 := Lib.hid (HX.out.below HB5.out)
                  have HH5 := Lib.hid (own_below HH.out HB5.out)
                  rw [← HTV.out] at HH5
                  have HB6 := Lib.hid (HB4.out.trans (HB5.out.mono HB4.out.size))
                  go_wp2_with fail
                  go_roundw
                  case rel => exact ⟨k + 1, hd, by omega, by go_num, HX5, HH5, HB6⟩
                  case measure => simp [intOf]; omega
            · obtain rfl : k = l.length := by omega
              rw [List.take_length] at HH
              have HX2 := HX.out.cells
              obtain ⟨cx0, cx1⟩ := HX2
              have hown5 := own_below hownT (HB3.out)
              have hHv : wr.ownsRow wb.heap.size 9 1 hd (vals l nm).length (scells (vals l nm)) := HH.out
              have hap := own_apart hHv hownT (Nat.le_refl _)
              have HTO5 := Lib.hid ((HTK.out.below HB3.out).snoc (t := (nm, hd, vals l nm)) (hHv.mono HB2.out.size) hap)
              have HHv := Lib.hid (hdr_owns hHv)
              clear hHv hap HTK
              have HB5 := Lib.hid (HB2.out.trans (HB3.out.mono HB2.out.size))
              have hsz5 := HB5.out.size
              have hsz3 := HB3.out.size
              go_wp2_with (at_builtin; go_must (refine app_attrs (wr.alloc (.cells #[.string nm, hd] 60)) (hown5.alloc _) (.tmp 83) (.tmp 85) _ 1 1 [(nm, hd, vals l nm)] ?_ ?_ ?_ ?_ (ts_new1 wr (nm, hd, vals l nm)) ?_ ?_ ?_ ?_; exact rfl; exact rfl; exact rfl; exact rfl; exact (fun t ht => by rw [List.mem_singleton.1 ht]; exact HHv.out.below ((Below.refl _ wr).alloc (Nat.le_refl _) _)); omega; (simp; omega); intro v7 w7 hown7 hg7 hl7))
              have HT7 := Lib.hid (HMT.out hd)
              have HTO7 := Lib.hid ((HTO5.out.below ((Below.refl _ wr).alloc (Nat.le_refl _) _)).grown hg7 hl7)
              have hb7 : Below wa.heap.size wa w7 := (HB5.out.alloc hsz5 _).grown hg7 (by simp; omega) (fun q hq => (hown5.lt q hq).1)
              go_roundw
              case rel => exact ⟨i + 1, T ++ [(nm, hd, vals l nm)], by omega, by go_num, by simp [hTl], HT7, HTO7, by rw [List.length_append, tcells_append]; exact hown7, Lib.hid hb7⟩
              case measure => simp [intOf]; omega
        · obtain rfl : i = ns.length := by omega
          have HE := Lib.hid (show tats T = nf l by rw [HTT.out, List.take_length, HNF.out])
          go_wp2_with fail
          go_ret
          exact ⟨_, T, rfl, HE.out, HTK.out.mono HB.out.size, hownT.mono HB.out.size, HB.out.trans (HB2.out.mono HB.out.size)⟩
end Go.Proofs.YtbkignlbcneddaaGreatDoor
end

section
/-
  Contracts of the specification's Same, Equal, Get, Has and Names. Condition: as Sorted's.
-/
set_option maxRecDepth 100000
namespace Go.Proofs.YtbkignlbcneddaaGreatDoor
open Go.RowKit Go.PlainAid
/-- a list of attributes handed back -/
def AttsR (w : World) (v : Value) (l : List At) : Prop := ∃ ao n cap, v = .slice ao n cap ∧ AttrsAt w ao n cap l
theorem AttsR.below {w w' : World} {v : Value} {l : List At} (h : AttsR w v l) (hb : Below w.heap.size w w') : AttsR w' v l := by
  obtain ⟨ao, n, cap, e, hs⟩ := h
  exact ⟨ao, n, cap, e, hs.below hb⟩
theorem atts_own {w : World} {base n : Nat} {v : Value} {T : List Tr} (h : w.ownsRow base 60 2 v n (tcells T)) (hT : TOk w T) : AttsR w v (tats T) := by
  obtain ⟨_, ao, cap, rfl, hat, _⟩ := ts_owns h
  exact ⟨ao, n, cap, rfl, ts_ats hat hT⟩
theorem nf_at {l : List At} {i : Nat} (h : i < (nf l).length) : (atD (nf l) i).2 = vals l (atD (nf l) i).1 := (nf_mem.1 (at_mem _ i h)).1
theorem nf_none {l : List At} {n : ByteArray} (h : ∀ j, j < (nf l).length → (atD (nf l) j).1 ≠ n) : vals l n = [] := by
  refine Classical.not_not.1 fun e => ?_
  have := nf_mem.2 ⟨(rfl : ((n, vals l n) : At).2 = vals l (n, vals l n).1), e⟩
  obtain ⟨j, hj, e2⟩ := List.getElem_of_mem this
  refine h j hj ?_
  rw [at_get _ j hj, e2]
end Go.Proofs.YtbkignlbcneddaaGreatDoor
end

section
/-
  Contracts of the specification's Get, Has and Names. Condition: as Sorted's.
-/
set_option maxRecDepth 100000
namespace Go.Proofs.YtbkignlbcneddaaGreatDoor
open Go.RowKit Go.PlainAid
/-- what the functions of the layer ask of a list of attributes -/
structure Few (l : List At) : Prop where
  small : SmallA l
  vals : sumV l ≤ 1100000
  len : l.length ≤ 3000
set_option maxRecDepth 100000 in
set_option maxHeartbeats 4000000 in
theorem rget_s (ao : Option Addr) (n cap : Nat) (l : List At) (name : ByteArray) (w : World) (h : AttrsAt w ao n cap l) (hF : Few l) (hns : name.size ≤ 1100000) :
    Calls Tryz.prog 156 #[.slice ao n cap, .string name] w fun e w' => ∃ v, e = .returned v ∧ Hdr w' v (vals l (lowS name)) ∧ Below w.heap.size w w' := by
  have HR := Lib.hid (rsorted_s ao n cap l w h hF.small hF.vals (by rw [← h.1]; exact hF.len))
  have hlen := Nat.le_trans (nf_len l) hF.len
  go_enter Tryz.func156, Tryz.ntmps156
  go_wp2_with fail
  refine HR.out.mono ?_
  rintro e w1 ⟨v, T, rfl, hT, hTO, hown, hb⟩
  obtain ⟨_, xo, xc, rfl, hat, _⟩ := ts_owns hown
  have HTA := Lib.hid hat
  have HTO := Lib.hid hTO.ok
  have HB := Lib.hid hb
  have HT := Lib.hid hT
  have hTl : T.length ≤ 3000 := by rw [← tats_len, hT]; exact hlen
  have hxc : xc ≤ 9223372036854775807 := hat.2.2.1
  clear HR h hF hat hTO hb hown hT hlen
  obtain ⟨lw, hlw⟩ : ∃ x, lowS name = x := ⟨_, rfl⟩
  have HLW := Lib.hid hlw
  clear hlw
  have HV : ∀ j, j < T.length → Hid ((trD T j).2.2 = vals l (trD T j).1) := fun j hj => Lib.hid (by
    have h5 := nf_at (l := l) (i := j) (by rw [← HT.out, tats_len]; exact hj)
    rw [← HT.out, atD_tats] at h5
    exact h5)
  go_wp2_with fail
  go_loopw [6] (fun i wr => ∃ q : Nat, q ≤ T.length ∧ i = .int .i64 q ∧ Hid (∀ j, j < q → (trD T j).1 ≠ lw) ∧ Hid (Below w1.heap.size w1 wr)) (fun i _ => T.length - (intOf i).toNat)
  case atStart => exact ⟨0, Nat.zero_le _, rfl, Lib.hid (fun j hj => absurd hj (Nat.not_lt_zero _)), Lib.hid (Below.refl _ _)⟩
  case round =>
    obtain ⟨q, hq, rfl, HA, HB2⟩ := hrel
    by_cases hlt : q < T.length
    · obtain ⟨b, off, rfl, hblt, _⟩ := HTA.out.2.2.2 (by omega)
      obtain ⟨a0, a1⟩ := ts_at HTA.out q hlt
      have a0 := cell_later HB2.out a0
      have a1 := cell_later HB2.out a1
      have HHd := Lib.hid (HTO.out _ (tr_mem T q hlt))
      have HVq := HV q hlt
      have HNE := Lib.hid (fun (e : (trD T q).1 ≠ lw) j (hj : j < q + 1) => if h : j = q then by rw [h]; exact e else HA.out j (by omega))
      obtain ⟨x, hx⟩ : ∃ x, trD T q = x := ⟨_, rfl⟩
      rw [hx] at a0 a1 HHd HVq HNE
      clear hx
      obtain ⟨p, hd, vs⟩ := x
      simp only [] at a0 a1 HHd HVq HNE
      have d1 : (q : Int) < (T.length : Int) := by omega
      have HBd : Hid (Below w1.heap.size w1 wr.drew ∧ w1.heap.size ≤ wr.drew.heap.size) := Lib.hid ⟨HB2.out.drew, HB2.out.size⟩
      by_cases hpl : p = lw
      · have q1 : (p.toList == lw.toList) = true := by rw [str_eq]; exact decide_eq_true hpl
        go_wp2_with fail
        go_region_held3 (fun W => W.cell? ⟨b, off + q * 2, none⟩ = some (.string p) ∧ W.cell? ⟨b, off + q * 2 + 1, none⟩ = some hd ∧ Hid (Below w1.heap.size w1 W ∧ w1.heap.size ≤ W.heap.size))
          (first | exact ⟨a0, a1, HBd⟩ | exact keep2b (by assumption) hb | go_keep)
          ((go_at_call 59; with_reducible refine (rLower_s name _ (by omega)).mono ?_; rintro e w5 ⟨rfl, hb⟩; rw [HLW.out]))
        have HB6 := Lib.hid (HBd.out.1.trans (hb.mono HBd.out.2))
        have a15 := cell_later (hb.mono (Nat.le_refl _)) (show wr.drew.cell? ⟨b, off + q * 2 + 1, none⟩ = some hd from a1)
        go_wp2_with fail
        go_ret
        refine ⟨hd, rfl, ?_, HB.out.trans (HB6.out.mono HB.out.size)⟩
        rw [HLW.out, ← hpl, ← HVq.out]
        exact HHd.out.below HB6.out
      · have q1 : (p.toList == lw.toList) = false := by rw [str_eq]; exact decide_eq_false hpl
        have HN2 := Lib.hid (HNE.out hpl)
        clear hpl
        go_wp2_with fail
        go_region_held3 (fun W => W.cell? ⟨b, off + q * 2, none⟩ = some (.string p) ∧ W.cell? ⟨b, off + q * 2 + 1, none⟩ = some hd ∧ Hid (Below w1.heap.size w1 W ∧ w1.heap.size ≤ W.heap.size))
          (first | exact ⟨a0, a1, HBd⟩ | exact keep2b (by assumption) hb | go_keep)
          ((go_at_call 59; with_reducible refine (rLower_s name _ (by omega)).mono ?_; rintro e w5 ⟨rfl, hb⟩; rw [HLW.out]))
        have HB6 := Lib.hid (HBd.out.1.trans (hb.mono HBd.out.2))
        go_wp2_with fail
        go_roundw
        case rel => exact ⟨q + 1, by omega, by go_num, HN2, HB6⟩
        case measure => simp [intOf]; omega
    · obtain rfl : q = T.length := by omega
      have HE := Lib.hid (show vals l lw = [] from nf_none fun j hj => by
        rw [← HT.out, tats_len] at hj
        rw [← HT.out, atD_tats]
        exact HA.out j hj)
      go_wp2_with fail
      go_ret
      exact ⟨_, rfl, by rw [HLW.out, HE.out]; exact hdr_nil _, HB.out.trans (HB2.out.mono HB.out.size)⟩
theorem rhas_s (ao : Option Addr) (n cap : Nat) (l : List At) (name v : ByteArray) (w : World) (h : AttrsAt w ao n cap l) (hF : Few l) (hns : name.size ≤ 1100000) :
    Calls Tryz.prog 120 #[.slice ao n cap, .string name, .string v] w fun e w' => e = .returned (.bool (memB (vals l (lowS name)) v)) ∧ Below w.heap.size w w' := by
  have HR := Lib.hid (rget_s ao n cap l name w h hF hns)
  go_enter Tryz.func120, Tryz.ntmps120
  go_wp2_with fail
  refine HR.out.mono ?_
  rintro e w1 ⟨u, rfl, hH, hb⟩
  obtain ⟨xo, xn, xc, rfl, hs⟩ := hH
  have HS := Lib.hid (has_s xo xn xc _ v w1 hs)
  clear hs
  go_wp2_with fail
  refine HS.out.mono ?_
  rintro e w2 ⟨rfl, rfl⟩
  go_wp2_with fail
  go_ret
  exact ⟨rfl, hb⟩
end Go.Proofs.YtbkignlbcneddaaGreatDoor
end

section
/-
  Contracts of the specification's Names, without and with. Condition: as Sorted's.
-/
set_option maxRecDepth 100000
namespace Go.Proofs.YtbkignlbcneddaaGreatDoor
open Go.RowKit Go.PlainAid
/-- what is handed back as a row of the call's own -/
def AttsO (w : World) (base : Nat) (v : Value) (l : List At) : Prop := ∃ T, tats T = l ∧ TOwn w base v T ∧ w.ownsRow base 60 2 v T.length (tcells T)
theorem AttsO.r {w : World} {base : Nat} {v : Value} {l : List At} (h : AttsO w base v l) : AttsR w v l := by
  obtain ⟨T, rfl, hO, hown⟩ := h
  exact atts_own hown hO.ok
end Go.Proofs.YtbkignlbcneddaaGreatDoor
end

section
/-
  Contracts of the specification's checkValues and with. Condition: as Sorted's.
-/
set_option maxRecDepth 100000
namespace Go.Proofs.YtbkignlbcneddaaGreatDoor
open Go.RowKit Go.PlainAid
theorem sum_none : ∀ l : List Nat, (∀ x ∈ l, x = 0) → l.sum = 0
  | [], _ => rfl
  | x :: l, h => by
    rw [List.sum_cons, h x (List.mem_cons_self ..), sum_none l fun y hy => h y (List.mem_cons_of_mem _ hy)]
theorem sum_hit (m : Nat) (n : ByteArray) : ∀ ns : List ByteArray, ns.Nodup → (ns.map fun k => if n = k then m else 0).sum ≤ m
  | [], _ => Nat.zero_le _
  | k :: ns, h => by
    have h' := List.nodup_cons.1 h
    rw [List.map_cons, List.sum_cons]
    by_cases e : n = k
    · rw [if_pos e]
      have hz : (ns.map fun k => if n = k then m else 0).sum = 0 := by
        refine sum_none _ fun x hx => ?_
        obtain ⟨j, hj, rfl⟩ := List.mem_map.1 hx
        rw [if_neg fun e2 => h'.1 (by rw [← e, e2]; exact hj)]
      omega
    · rw [if_neg e]
      have := sum_hit m n ns h'.2
      omega
theorem sum_le {α : Type} (f g : α → Nat) : ∀ l : List α, (∀ x ∈ l, f x ≤ g x) → (l.map f).sum ≤ (l.map g).sum
  | [], _ => Nat.le_refl _
  | x :: l, h => by
    rw [List.map_cons, List.map_cons, List.sum_cons, List.sum_cons]
    have h1 := h x (List.mem_cons_self ..)
    have h2 := sum_le f g l fun y hy => h y (List.mem_cons_of_mem _ hy)
    omega
theorem sum_add {α : Type} (f g : α → Nat) : ∀ l : List α, (l.map fun x => f x + g x).sum = (l.map f).sum + (l.map g).sum
  | [] => rfl
  | x :: l => by
    rw [List.map_cons, List.map_cons, List.map_cons, List.sum_cons, List.sum_cons, List.sum_cons, sum_add f g l]; omega
theorem sum_allV : ∀ (l : List At) (ns : List ByteArray), ns.Nodup → (ns.map fun n => (allV l n).length).sum ≤ sumV l
  | [], ns, _ => by
    have : (ns.map fun n => (allV [] n).length).sum = 0 := by
      refine sum_none _ fun x hx => ?_
      obtain ⟨j, hj, rfl⟩ := List.mem_map.1 hx
      rfl
    rw [this]; exact Nat.zero_le _
  | a :: l, ns, h => by
    have e : (fun n => (allV (a :: l) n).length) = fun n => (if lowS a.1 = n then a.2.length else 0) + (allV l n).length := by
      funext n
      rw [allV_cons, List.length_append]
      split <;> rfl
    rw [e, sum_add, sumV_cons]
    have h1 := sum_hit a.2.length (lowS a.1) ns h
    have h2 := sum_allV l ns h
    omega
theorem sumV_nf (l : List At) : sumV (nf l) ≤ sumV l := by
  unfold sumV nf
  rw [List.map_map]
  refine Nat.le_trans (sum_le _ (fun n => (allV l n).length) _ fun n _ => ?_) (sum_allV l _ (asc_nodup (names_asc l)))
  exact sortU_len _
theorem few_nf {l : List At} (h : Few l) : Few (nf l) := ⟨nf_small h.small, Nat.le_trans (sumV_nf l) h.vals, Nat.le_trans (nf_len l) h.len⟩
/-- there is room for the values vs under one more name -/
structure Room (l : List At) (vs : List ByteArray) : Prop where
  small : SmallA l
  vals : sumV l + vs.length ≤ 1100000
  len : l.length ≤ 999
  vsmall : SmallS vs
theorem Room.few {l : List At} {vs : List ByteArray} (h : Room l vs) : Few l := ⟨h.small, by have := h.vals; omega, by have := h.len; omega⟩
end Go.Proofs.YtbkignlbcneddaaGreatDoor
end
