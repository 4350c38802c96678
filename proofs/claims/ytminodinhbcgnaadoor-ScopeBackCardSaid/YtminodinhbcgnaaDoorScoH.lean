/-
  Contract of the program's Sorted: a range over a map with a loop that leaves the round by a label; slices.Sort. Condition: lists of at most 5000 strings of at most 1000000 bytes.
-/
import Derived.Test.YtminodinhbcgnaaDoorScoG
import Derived.Test.YtminodinhbcgnaaDoorShelfK
import Derived.Sort.OwnSorted
import Derived.Shelf.SortM.Plain
import Derived.Shelf.SortM.SortNone
import Derived.Deep.LoopGhost
import Derived.WalkMore
set_option maxRecDepth 100000
set_option linter.unusedVariables false
set_option linter.unusedSimpArgs false
set_option linter.unnecessarySimpa false
namespace Go.Proofs.YtminodinhbcgnaaDoor
open Go.RowKit Go.PlainAid Go.Maps Go.ChangeShapes Go.WideShapes Go.ChangeAt

section
open Go.Sort Go.Lib Go.Shelf
def toB (x : List UInt8) : ByteArray := ⟨x.toArray⟩
theorem toB_list (s : ByteArray) : toB s.data.toList = s := Lib.mk_data s
theorem list_toB (x : List UInt8) : (toB x).data.toList = x := by simp [toB]
theorem enc_cells (ss : List (List UInt8)) : ss.map encStr = scells (ss.map toB) := by unfold scells; rw [List.map_map]; rfl
theorem cells_enc (l : List ByteArray) : scells l = (l.map fun s => s.data.toList).map encStr := by
  rw [enc_cells, List.map_map]; congr 1
  exact ((List.map_congr_left fun s _ => toB_list s).trans (List.map_id _)).symm

theorem grow_none (w : World) : grow w #[] = w := by unfold grow; simp
theorem grown_two {w w1 w2 : World} {row : Option Nat} (h : w.grownBy w1 row) (k : w1.grownBy w2 row) : w.grownBy w2 row :=
  ⟨k.os.trans h.os, k.tape.trans h.tape, k.output.trans h.output, Nat.le_trans h.size k.size, fun j hj hne => (k.block j (Nat.lt_of_lt_of_le hj h.size) hne).trans (h.block j hj hne)⟩
theorem sort_len (ss : List (List UInt8)) : (ss.mergeSort fun x y => decide (x ≤ y)).length = ss.length := (List.mergeSort_perm ss _).length_eq
theorem lt_cmp : ∀ a b : List UInt8, a < b ↔ Lib.compareBytes a b < 0
  | [], [] => by simp [Lib.compareBytes]
  | [], _ :: _ => by simp [Lib.compareBytes]
  | _ :: _, [] => by simp [Lib.compareBytes]
  | x :: a, y :: b => by
    rw [List.cons_lt_cons_iff, lt_cmp a b]
    show _ ↔ (if x < y then (-1 : Int) else if y < x then 1 else Lib.compareBytes a b) < 0
    by_cases h : x < y
    · simp [h]
    · by_cases g : y < x
      · have hne : ¬ x = y := fun e => by subst e; exact h g
        simp [h, g, hne]
      · have he : x = y := by
          have h1 : ¬ x.toNat < y.toNat := fun k => h (UInt8.lt_iff_toNat_lt.2 k)
          have h2 : ¬ y.toNat < x.toNat := fun k => g (UInt8.lt_iff_toNat_lt.2 k)
          exact UInt8.toNat_inj.1 (by omega)
        simp [h, g, he]
theorem nodup_sorted {l : List ByteArray} (h : l.Nodup) : ((l.map fun s => s.data.toList).mergeSort fun x y => decide (x ≤ y)).map toB = sortU l := by
  obtain ⟨ss, hss⟩ : ∃ ss, (l.map fun s => s.data.toList) = ss := ⟨_, rfl⟩
  rw [hss]
  have hs := List.pairwise_mergeSort (le := fun (x y : List UInt8) => decide (x ≤ y)) (fun a b c h1 h2 => decide_eq_true (List.le_trans (of_decide_eq_true h1) (of_decide_eq_true h2))) (fun a b => by
    rcases List.le_total a b with k | k
    · simp [k]
    · simp [k]) ss
  have hp := List.mergeSort_perm ss (fun x y => decide (x ≤ y))
  obtain ⟨zs, hz⟩ : ∃ zs, (ss.mergeSort fun x y => decide (x ≤ y)) = zs := ⟨_, rfl⟩
  rw [hz] at hs hp ⊢
  have hnd : ss.Nodup := by
    rw [← hss]
    exact List.pairwise_map.2 (h.imp fun {a b} k e => k (ba_ext e))
  have hzn : zs.Nodup := hp.nodup_iff.2 hnd
  refine asc_ext ?_ (sortU_asc l) fun x => ?_
  · unfold Asc
    rw [List.pairwise_map]
    refine (hs.and hzn).imp fun {a b} k => ?_
    have hle : a ≤ b := of_decide_eq_true k.1
    rcases cs_tri (toB a) (toB b) with c | c | c
    · exact c
    · exact absurd (by have := congrArg (fun s : ByteArray => s.data.toList) c; simpa [toB] using this) k.2
    · exact absurd ((lt_cmp b a).2 (by simpa [cmpS, toB] using c)) (List.not_lt.2 hle)
  · rw [List.mem_map, sortU_mem]
    constructor
    · rintro ⟨y, hy, rfl⟩
      rw [hp.mem_iff, ← hss, List.mem_map] at hy
      obtain ⟨s, hs', rfl⟩ := hy
      rw [toB_list]; exact hs'
    · intro hx
      exact ⟨x.data.toList, hp.mem_iff.2 (by rw [← hss]; exact List.mem_map_of_mem hx), toB_list x⟩
theorem sortRow_s (base n : Nat) (v : Value) (l : List ByteArray) (w : World) (hown : w.ownsRow base 9 1 v n (scells l)) (hl : l.length = n) (hn : n ≤ 1100000) (hnd : l.Nodup) :
    Calls Tryd.prog 37 #[v] w fun e w' => e = .returned (.tuple #[]) ∧ w'.ownsRow base 9 1 v n (scells (sortU l)) ∧ w.grownBy w' v.ownBlock := by
  rcases hown.2 with ⟨rfl, h0⟩ | ⟨g, cap, cur, rfl, hg, hb, hc, hm, hcs, ht⟩
  · subst h0
    obtain rfl : l = [] := List.length_eq_zero_iff.1 hl
    refine (AnyM.slices_Sort_string_none Tryd.sort none 0 _).mono ?_
    rintro e w1 ⟨rfl, rfl⟩
    exact ⟨rfl, World.ownsRow_nil _ _ _ _, ⟨rfl, rfl, rfl, Nat.le_refl _, fun _ _ _ => rfl⟩⟩
  · subst hl
    have HE := nodup_sorted hnd
    obtain ⟨ss, hss⟩ : ∃ ss, (l.map fun s => s.data.toList) = ss := ⟨_, rfl⟩
    have hsl : ss.length = l.length := by rw [← hss, List.length_map]
    have hgl : g < w.heap.size := by
      rcases Nat.lt_or_ge g w.heap.size with h' | h'
      · exact h'
      · simp [Array.getElem?_eq_none h'] at hb
    have hH : Holds encStr w g 0 ss.toArray := holds_of_block hb (by rw [hsl, ← hss, ← cells_enc]; simpa using ht)
    rw [hss] at HE
    obtain ⟨ts, hts⟩ : ∃ ts, (ss.mergeSort fun x y => decide (x ≤ y)) = ts := ⟨_, rfl⟩
    have htl : ts.length = ss.length := by rw [← hts]; exact sort_len ss
    have hS := AnyM.slices_Sort_string Tryd.sort g 0 cap ss w hH hgl (by omega)
    rw [hsl, hts] at hS
    rw [hts] at HE
    refine hS.mono ?_
    rintro e w' ⟨rfl, m, os, rfl⟩
    have ho1 := ownsRow_sorted (w := w) (n := m) (os := os) (ss := ss) (ts := ts) htl hg hb (by omega) hm (by omega)
    refine ⟨rfl, ?_, grownBy_sorted (w := w) (g := g) (n := m) (os := os) ts.toArray⟩
    rw [hsl] at ho1
    rw [← HE, ← enc_cells]
    exact ho1

end

theorem SRange.keep {w V : World} {g r m n : Nat} {f : ByteArray → Option Value} {left : Lit → Bool} {cnt : Nat} (h : SRange w g r m n f left cnt) (hg : V.heap[g]? = w.heap[g]?) (hr : V.heap[r]? = w.heap[r]?) : SRange V g r m n f left cnt := by
  obtain ⟨D, ⟨es, clock, since, seen, c0, h1, h2, h3, h4, h5, h6⟩, hs, hf⟩ := h
  exact ⟨D, ⟨es, clock, since, seen, c0, by rw [hg]; exact h1, h2, h3, h4, by rw [hr]; exact h5, h6⟩, hs, hf⟩
/-- what has been kept of the scopes that have come: 'left' is still to come -/
structure PS (l : List ByteArray) (left : Lit → Bool) (Ls : List ByteArray) : Prop where
  nod : Ls.Nodup
  mem : ∀ x, x ∈ Ls ↔ hasV l x = true ∧ lstB l x = true ∧ left (klit x) = false
theorem ps_start {l : List ByteArray} {left : Lit → Bool} (h : ∀ k, (hdF l k).isSome = true → left (klit k) = true) : PS l left [] :=
  ⟨List.Pairwise.nil, fun x => ⟨fun h => absurd h List.not_mem_nil, fun ⟨h1, _, h3⟩ => by
    have := h x (by unfold hdF; rw [if_pos h1]; rfl)
    rw [this] at h3; cases h3⟩⟩
theorem hd_has {l : List ByteArray} {x : ByteArray} {v : Value} (h : hdF l x = some v) : hasV l x = true := by
  unfold hdF at h
  split at h
  · assumption
  · cases h
theorem PS.add {l : List ByteArray} {left : Lit → Bool} {Ls : List ByteArray} {x : ByteArray} (h : PS l left Ls) (hl : left (klit x) = true) (hx : hasV l x = true) (hs : lstB l x = true) : PS l (fun z => left z && !z.sameKey (klit x)) (Ls ++ [x]) := by
  refine ⟨List.nodup_append.2 ⟨h.nod, by simp, fun a ha b hb => ?_⟩, fun y => ?_⟩
  · rw [List.mem_singleton.1 hb]
    rintro rfl
    have := ((h.mem a).1 ha).2.2
    rw [hl] at this; cases this
  · rw [List.mem_append, List.mem_singleton, h.mem y, same_klit]
    constructor
    · rintro (⟨a, b, c⟩ | rfl)
      · exact ⟨a, b, by rw [c]; rfl⟩
      · exact ⟨hx, hs, by simp⟩
    · rintro ⟨a, b, c⟩
      by_cases e : y = x
      · exact .inr e
      · exact .inl ⟨a, b, by simpa [e] using c⟩
theorem PS.skip {l : List ByteArray} {left : Lit → Bool} {Ls : List ByteArray} {x : ByteArray} (h : PS l left Ls) (hl : left (klit x) = true) (hs : lstB l x = false) : PS l (fun z => left z && !z.sameKey (klit x)) Ls := by
  refine ⟨h.nod, fun y => ?_⟩
  rw [h.mem y, same_klit]
  refine and_congr_right fun _ => and_congr_right fun b => ?_
  have e : ¬ y = x := fun e => by rw [e, hs] at b; cases b
  simp [e]
theorem PS.done {l : List ByteArray} {left : Lit → Bool} {Ls : List ByteArray} (h : PS l left Ls) (hl : ∀ kl, left kl = false) : sortU Ls = srt l := by
  unfold srt
  refine sortU_eq fun x => ?_
  rw [h.mem x, List.mem_filter]
  constructor
  · rintro ⟨a, b, _⟩
    exact ⟨(hasV_iff.1 a).1, b⟩
  · rintro ⟨a, b⟩
    exact ⟨hasV_iff.2 ⟨a, (lst_iff.1 b).1⟩, b, hl _⟩
theorem lst_hit {l : List ByteArray} {s : ByteArray} {j : Nat} (hv : vdB s = true) (hj : j < (incL s).length) (hne : ¬ partAt (incL s) j = s) (hh : hasV l (partAt (incL s) j) = true) : lstB l s = false := by
  rw [lst_inc hv, Bool.not_eq_false', List.any_eq_true]
  exact ⟨_, part_mem _ _ hj, by rw [decide_eq_true hne, hh]; rfl⟩
theorem lst_all {l : List ByteArray} {s : ByteArray} (hv : vdB s = true) (h : ∀ j, j < (incL s).length → (decide (partAt (incL s) j ≠ s) && hasV l (partAt (incL s) j)) = false) : lstB l s = true := by
  rw [lst_inc hv, Bool.not_eq_true']
  exact fstI_none (f := fun t => decide (t ≠ s) && hasV l t) h
set_option maxHeartbeats 16000000 in
theorem sorted_k (ao : Option Addr) (n cap : Nat) (l L : List ByteArray) (w : World) (h : StrsAt w ao n cap l) (hs : SmS l) (ho : MaxOk w) (hL : srt l = L) :
    Calls Tryd.prog 19 #[.slice ao n cap] w fun e w' => ∃ v, e = .returned v ∧ w'.ownsRow w.heap.size 9 1 v L.length (scells L) ∧ Below w.heap.size w w' := by
  have HS := Lib.hid (scopes_k ao n cap l w h hs ho)
  have HL := Lib.hid hL
  have HZ := Lib.hid (fun x (hx : hasV l x = true) => sms_in hs (hasV_iff.1 hx).1)
  have hll := hs.1
  clear h hs ho hL
  go_enter Tryd.func19, Tryd.ntmps19
  go_wp2
  go_step3
  go_wp2_with fail
  refine HS.out.mono ?_
  rintro e w1 ⟨rfl, ⟨m, hm, hM⟩, hb1⟩
  have HM := Lib.hid hM
  have HB1 := Lib.hid hb1
  have hgl := hM.lt
  have hz1 := hb1.size
  clear hM hb1
  go_wp2_with fail
  go_step3
  go_wp2_with (first
    | (at_range; refine wpList_range_s rfl _ 42 rfl 4 Tryd.underlying42 w.heap.size m (hdF l) rfl HM.out ?_; intro w2 left0 hr0 hl0 hb0 hs0)
    | go_in)
  go_frame
  have HB2 := Lib.hid (HB1.out.trans (hb0.mono hz1))
  have HR0 := Lib.hid hr0
  have HP0 := Lib.hid (ps_start hl0)
  have HN0 := Lib.hid (World.ownsRow_nil w2 (w1.heap.size + 1) 9 1)
  have hz2 : w2.heap.size = w1.heap.size + 1 := hs0
  clear hr0 hl0 hb0 hs0
  go_loopg [4] m (fun gg lv wr => ∃ (left : Lit → Bool) (Ls : List ByteArray), Ls.length + gg ≤ m ∧ w1.heap.size + 1 ≤ wr.heap.size ∧ Hid (SRange wr w.heap.size w1.heap.size m m (hdF l) left gg) ∧ Hid (PS l left Ls) ∧ Hid (wr.ownsRow (w1.heap.size + 1) 9 1 lv Ls.length (scells Ls)) ∧ Hid (Below w.heap.size w wr))
  case atStart => exact ⟨left0, [], by simp, by omega, HR0, HP0, HN0, HB2⟩
  case round =>
    clear HR0 HP0 HN0 HB2 HM
    obtain ⟨left, Ls, hlen, hzr, HR, HP, HO, HB⟩ := hrel
    go_wp2_with (first
      | (at_next; refine wpList_next_s rfl _ rfl w.heap.size w1.heap.size m m (hdF l) left gk rfl HR.out ?_ ?_)
      | go_in)
    · intro hl0
      have HE := Lib.hid (show sortU Ls = L by rw [HP.out.done hl0]; exact HL.out)
      have HN := Lib.hid HP.out.nod
      have HC := Lib.hid (sortRow_s (w1.heap.size + 1) Ls.length _ Ls _ HO.out rfl (by omega) HP.out.nod)
      have HLo := Lib.hid (fun k hk => (HO.out.lt k hk).1)
      clear hl0 HR HP
      go_wp2_with fail
      refine HC.out.mono ?_
      rintro e w5 ⟨rfl, hown5, hgr5⟩
      have HX := Lib.hid hown5
      have HB5 := Lib.hid (HB.out.grown hgr5 HB.out.size (fun k hk => by have := HLo.out k hk; omega))
      clear hown5 hgr5
      go_wp2_with fail
      rw [Exit.noGoto_ret]
      go_ret
      exact ⟨_, rfl, by rw [← HE.out, sortU_len_new HN.out]; exact row_mono HX.out (by omega), HB5.out⟩
    · intro x v w3 cnt hxs hl hv hr1 hlt hg1 hs1 hen
      have HHas := Lib.hid (hd_has hv)
      have HVd := Lib.hid (hasV_iff.1 HHas.out).2
      have hz : x.size ≤ 1000000 := HZ.out x HHas.out
      have HLf := Lib.hid hl
      have HR1 := Lib.hid hr1
      have HO1 := Lib.hid (HO.out.kept (row := some w1.heap.size) hg1 (by
        cases hob : u4.ownBlock with
        | none => exact .inl rfl
        | some k =>
          refine .inr fun e => ?_
          have := (HO.out.lt k hob).1
          injection e with e
          omega))
      have HB3 := Lib.hid (HB.out.grown hg1 HB.out.size (fun j hj => by cases hj; exact hz1))
      have hz3 : w1.heap.size + 1 ≤ w3.heap.size := by rw [hs1]; exact hzr
      clear hv hl hr1 hg1 HR HO HB
      go_wp2_with fail
      refine (including_k x _ hz).mono ?_
      rintro e w4 ⟨v4, rfl, hown4, hb4⟩
      obtain ⟨ao4, cap4, rfl, hat4⟩ := strs_own hown4 rfl
      have HA4 := Lib.hid hat4
      have HR4 := Lib.hid (HR1.out.keep (hb4.block _ (show w.heap.size < w3.heap.size by omega)) (hb4.block _ (show w1.heap.size < w3.heap.size by omega)))
      have HO4 := Lib.hid (own_below HO1.out hb4)
      have HB4 := Lib.hid (HB3.out.trans (hb4.mono (show w.heap.size ≤ w3.heap.size by omega)))
      have hz4 : w1.heap.size + 1 ≤ w4.heap.size := Nat.le_trans hz3 hb4.size
      have HSm := Lib.hid (fun t (ht : t ∈ incL x) => inc_small ht)
      have hil : (incL x).length ≤ x.size + 1 := incK_len x x.size
      clear hown4 hat4 hb4 HR1 HO1 HB3 hs1 hen
      go_wp2_with fail
      go_loopg [19] (incL x).length (fun g2 jv wy => ∃ j : Nat, j + g2 = (incL x).length ∧ jv = .int .i64 j ∧ Hid (∀ i, i < j → (decide (partAt (incL x) i ≠ x) && hasV l (partAt (incL x) i)) = false) ∧ w4 = wy)
      case atStart => exact ⟨0, by omega, rfl, Lib.hid (fun i hi => absurd hi (Nat.not_lt_zero _)), rfl⟩
      case round =>
        obtain ⟨j, hj, rfl, HA, rfl⟩ := hrel
        cases gk with
        | zero =>
          have HLst := Lib.hid (lst_all HVd.out (l := l) fun i hi => HA.out i (by omega))
          have HP2 := Lib.hid (HP.out.add HLf.out HHas.out HLst.out)
          have HC := Lib.hid (scells_snoc Ls x)
          have d1 : ¬ (j : Int) < ((incL x).length : Int) := by omega
          clear hj
          go_wp2_with (at_builtin; go_must (refine push_str _ HO4.out (.tmp 32) (.tmp 34) x ?_ ?_ ?_ ?_ ?_ ?_ ?_; exact rfl; exact rfl; exact rfl; exact rfl; omega; exact hz4; intro v6 w6 hown6 hb6))
          go_roundg cnt
          case measure => omega
          case rel => exact ⟨_, Ls ++ [x], by rw [List.length_append]; simp; omega, Nat.le_trans hz4 hb6.size, Lib.hid (HR4.out.keep (hb6.block _ (show w.heap.size < w1.heap.size + 1 by omega)) (hb6.block _ (show w1.heap.size < w1.heap.size + 1 by omega))), HP2, Lib.hid (by rw [HC.out, List.length_append]; exact hown6), Lib.hid (HB4.out.trans (hb6.mono (show w.heap.size ≤ w1.heap.size + 1 by omega)))⟩
        | succ g2 =>
          have hjl : j < (incL x).length := by omega
          obtain ⟨b, off, rfl, hss⟩ := HA4.out.2.2.2 (by omega)
          have hcell := hss.2 j hjl
          clear hss
          obtain ⟨p, hpe⟩ : ∃ p, p = partAt (incL x) j := ⟨_, rfl⟩
          rw [← hpe] at hcell
          have HPe := Lib.hid hpe
          have hzp : p.size ≤ x.size := by rw [hpe]; exact HSm.out _ (part_mem _ j hjl)
          clear hpe
          have d1 : (j : Int) < ((incL x).length : Int) := by omega
          by_cases hpx : p = x
          · have q1 : (p.toList != x.toList) = false := by rw [str_ne]; exact decide_eq_false (fun h => h hpx)
            have q2 : (p.toList == x.toList) = true := by rw [str_eq]; exact decide_eq_true hpx
            have HN := Lib.hid (show (decide (p ≠ x) && hasV l p) = false by rw [decide_eq_false (fun h => h hpx)]; rfl)
            clear hpx
            go_wp2_with fail
            go_roundg g2
            case measure => omega
            case rel =>
              refine ⟨j + 1, by omega, by go_num, Lib.hid fun i hi => ?_, rfl⟩
              by_cases e : i = j
              · rw [e, ← HPe.out]; exact HN.out
              · exact HA.out i (by omega)
          · have q1 : (p.toList != x.toList) = true := by rw [str_ne]; exact decide_eq_true hpx
            have q2 : (p.toList == x.toList) = false := by rw [str_eq]; exact decide_eq_false hpx
            have hlk := HR4.out.done.held p (by unfold maxLen; omega)
            cases hh : hasV l p with
            | false =>
              rw [hh] at hlk
              have HN := Lib.hid (show (decide (p ≠ x) && hasV l p) = false by rw [hh, Bool.and_false])
              clear hpx hh
              go_wp2_with fail
              go_roundg g2
              case measure => omega
              case rel =>
                refine ⟨j + 1, by omega, by go_num, Lib.hid fun i hi => ?_, rfl⟩
                by_cases e : i = j
                · rw [e, ← HPe.out]; exact HN.out
                · exact HA.out i (by omega)
            | true =>
              rw [hh] at hlk
              have HP2 := Lib.hid (HP.out.skip HLf.out (lst_hit HVd.out hjl (by rw [← HPe.out]; exact hpx) (by rw [← HPe.out]; exact hh)))
              clear hpx hh
              go_wp2_with fail
              go_roundg cnt
              case measure => omega
              case rel => exact ⟨_, Ls, by omega, hz4, HR4, HP2, HO4, HB4⟩

end Go.Proofs.YtminodinhbcgnaaDoor
