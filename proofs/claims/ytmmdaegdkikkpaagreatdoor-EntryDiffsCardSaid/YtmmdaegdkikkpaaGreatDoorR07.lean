/-
  Texts of the schema layer and of those beneath it, joined: NamB, NamF, NamG, NamSame, NamH, NamI, NamJ, NamU, NamW, NamX, NamY, NamZ, NamQ, ShelfR, NamO, NamT, NamD, SchStrs. Conditions stand at each contract.
-/
import Derived.WalkSmall
import Derived.BigQuiet
import Derived.Deep.QuietTactic
import Derived.Lib.Overlaps
import Derived.Lib.AppendZerosOnto
import Derived.Laws.IdiomCopy
import Derived.Deep.RegionLaw
import Derived.Shelf.SlicesQ.Reverse
import Derived.WalkLawsBesides
import Derived.Lib.SliceRun
import Derived.StillTailTactics
import Derived.BigRegion
import Derived.Test.YtmmdaegdkikkpaaGreatDoorR06
set_option linter.unusedVariables false
set_option linter.unusedSimpArgs false
set_option linter.unnecessarySimpa false

section
set_option maxRecDepth 100000
namespace Go.Proofs.YtmmdaegdkikkpaaGreatDoor
namespace Nam
open Go.RowKit Go.PlainAid
def TKeep (w w' : World) : Prop := ∀ (X : Nat) (cs : Array Value) (m : Nat × Nat), w.heap[X]? = some (.cells cs 192 m) → w'.heap[X]? = w.heap[X]?
theorem TKeep.refl (w : World) : TKeep w w := fun _ _ _ _ => rfl
theorem TKeep.trans {a b c : World} (h : TKeep a b) (k : TKeep b c) : TKeep a c := fun X cs m e => by
 have h1 := h X cs m e
 rw [k X cs m (by rw [h1]; exact e), h1]
theorem TKeep.below {w w' : World} (h : Below w.heap.size w w') : TKeep w w' := fun X cs m e => by
 refine h.block X ?_
 rcases Nat.lt_or_ge X w.heap.size with h' | h'
 ·exact h'
 ·simp [Array.getElem?_eq_none h'] at e
theorem TKeep.box {w w' : World} {b : Nat} {p : Pr} (h : TKeep w w') (hb : PBox w b p) : PBox w' b p := by
 unfold PBox at *
 rw [h _ _ _ hb]; exact hb
theorem TKeep.setCell {w wx : World} (h : TKeep w wx) {b : Nat} {cs : Array Value} {m : Nat × Nat} (hb : wx.heap[b]? = some (.cells cs 79 m)) (j : Nat) (v : Value) : TKeep w (wx.setCell ⟨b, j, none⟩ v) := fun X cs2 m2 e => by
 have h1 := h X cs2 m2 e
 have hne : X ≠ b := fun e2 => by
  rw [e2] at h1 e
  rw [h1, e] at hb
  have := Option.some.inj hb
  have h3 : 192 = 79 := by injection this
  exact absurd h3 (by decide)
 rw [Below.heap_setCell _ _ _ _ hne, h1]
theorem TKeep.grown {w wx w' : World} (h : TKeep w wx) {v : Value} {B n : Nat} {xs : List Value} (hown : wx.ownsRow B 5 1 v n xs) (hg : wx.grownBy w' v.ownBlock) : TKeep w w' := fun X cs m e => by
 have h1 := h X cs m e
 have h2 : wx.heap[X]? = some (.cells cs 192 m) := by rw [h1]; exact e
 have hlt : X < wx.heap.size := by
  rcases Nat.lt_or_ge X wx.heap.size with h' | h'
  ·exact h'
  ·simp [Array.getElem?_eq_none h'] at h2
 rw [hg.block X hlt (fun e2 => Lib.ownBlock_ne hown h2 (by decide) e2.symm), h1]
theorem check_any_k (B b : Nat) (bs : List Value) (w : World) (h : Lib.IsBuilder 79 5 B b bs w) :
  Calls Tryz.prog 115 #[.pointer (some ⟨b, 0, none⟩)] w fun e w' => e = .returned (.tuple #[]) ∧ (Lib.BuilderAt 79 5 B b (.pointer (some ⟨b, 0, none⟩)) bs w' ∧ Below B w w') ∧ TKeep w w' := by
 rcases h with h | h
 ·refine (check_fresh b w h.cell0 h.shape h.frozen0).mono ?_
  rintro e w' ⟨rfl, rfl⟩
  refine ⟨rfl, ⟨h.used _, (Below.refl B w).setCell (p := ⟨b, 0, none⟩) h.1 _⟩, ?_⟩
  obtain ⟨hB, v, hbk, _⟩ := h
  exact (TKeep.refl w).setCell hbk 0 _
 ·refine (check_used b w h.cell0).mono ?_
  rintro e w' ⟨rfl, rfl⟩
  exact ⟨rfl, ⟨h, Below.refl B _⟩, TKeep.refl _⟩
set_option maxHeartbeats 2000000 in
set_option maxRecDepth 100000 in
theorem writeByte_k (B b : Nat) (bs : List Value) (c : Int) (w : World) (h : Lib.IsBuilder 79 5 B b bs w) (hlen : bs.length + 1 ≤ 140737488355328) (hBw : B ≤ w.heap.size) :
  Calls Tryz.prog 199 #[.pointer (some ⟨b, 0, none⟩), .int .u8 c] w fun e w' => e = .returned .nilIface ∧ (Lib.BuilderAt 79 5 B b (.pointer (some ⟨b, 0, none⟩)) (bs ++ [.int .u8 c]) w' ∧ Below B w w') ∧ TKeep w w' := by
 go_enter Tryz.func199, Tryz.ntmps199
 go_wp2_with (go_at_call 115; refine (check_any_k B b bs _ h).mono ?_)
 rintro e w1 ⟨rfl, ⟨h1, hb1⟩, hk1⟩
 obtain ⟨hB, v, hbk, hown, hne⟩ := h1
 have c1 : w1.cell? ⟨b, 1, none⟩ = some v := by rw [Lib.cell_of_heap hbk]; rfl
 have HZ := hb1.size
 go_wp2_with (at_builtin; refine push_byte_g w1 hown (.tmp 11) (.tmp 13) _ ?_ ?_ ?_ ?_ ?_ ?_ ?_; exact rfl; exact rfl; exact rfl; exact rfl; omega; omega)
 intro v' w2 hown' hgrow
 have hk2 : TKeep w w2 := (hk1.trans (TKeep.below (below_new _))).grown (hown.alloc _) hgrow
 have hlt : b < w1.heap.size := by
  rcases Nat.lt_or_ge b w1.heap.size with h' | h'
  ·exact h'
  ·simp [Array.getElem?_eq_none h'] at hbk
 have hb2 : w2.heap[b]? = some (.cells #[.pointer (some ⟨b, 0, none⟩), v] 79 (0, 0)) := by
  rw [hgrow.block b (by simp; omega) (fun e => hne e.symm), Lib.alloc_old w1 _ b hlt]
  exact hbk
 have d1 : w2.cell? ⟨b, 1, none⟩ = some v := by rw [Lib.cell_of_heap hb2]; rfl
 have f1 : w2.frozen? ⟨b, 1, none⟩ = false := Lib.frozen_of_heap hb2 1
 obtain ⟨g, cap, rfl⟩ : ∃ g cap, v' = .slice (some ⟨g, 0, none⟩) (bs.length + 1) cap := by
  rcases hown'.2 with ⟨_, h0⟩ | ⟨g, cap, cur, hv, _⟩
  ·omega
  ·exact ⟨g, cap, hv⟩
 go_wp2
 go_ret
 refine ⟨rfl, ⟨?_, ?_⟩, hk2.setCell hb2 1 _⟩
 ·exact Lib.BuilderAt.put (T := 79) (e := 5) hB hb2 (bs' := bs ++ [.int .u8 c]) (by simpa using hown') (by decide)
 ·exact ((hb1.alloc (by omega) _).grown hgrow (by simp; omega) (fun k hk => (hown.lt k hk).1)).setCell (p := ⟨b, 1, none⟩) hB _
theorem writeByte_t (B b : Nat) (l : List UInt8) (c : UInt8) (x : Int) (w : World) (h : Bld B b l w) (hx : x = (c.toNat : Int)) (hlen : l.length ≤ 100000000000) (hBw : B ≤ w.heap.size) :
  Calls Tryz.prog 199 #[.pointer (some ⟨b, 0, none⟩), .int .u8 x] w fun e w' => e = .returned .nilIface ∧ Bld B b (l ++ [c]) w' ∧ Below B w w' ∧ TKeep w w' := by
 subst hx
 refine (writeByte_k B b (bcells l) c.toNat w h (by rw [bcells_length]; omega) hBw).mono fun e w' h => ⟨h.1, ?_, h.2.1.2, h.2.2⟩
 unfold Bld
 rw [bcells_append]
 exact .inr h.2.1.1
set_option maxHeartbeats 2000000 in
set_option maxRecDepth 100000 in
theorem writeString_k (B b : Nat) (bs : List Value) (s : ByteArray) (w : World) (h : Lib.IsBuilder 79 5 B b bs w) (hlen : bs.length + s.size ≤ 140737488355328) (hBw : B ≤ w.heap.size) :
  Calls Tryz.prog 55 #[.pointer (some ⟨b, 0, none⟩), .string s] w fun e w' => e = .returned (.tuple #[.int .i64 s.size, .nilIface]) ∧ (Lib.BuilderAt 79 5 B b (.pointer (some ⟨b, 0, none⟩)) (bs ++ Lib.strCells s) w' ∧ Below B w w') ∧ TKeep w w' := by
 obtain ⟨i0, hi, hz0, hz1, hz2⟩ := info_parts info5
 go_enter Tryz.func55, Tryz.ntmps55
 go_wp2_with (go_at_call 115; refine (check_any_k B b bs _ h).mono ?_)
 rintro e w1 ⟨rfl, ⟨h1, hb1⟩, hk1⟩
 obtain ⟨hB, v, hbk, hown, hne⟩ := h1
 have c1 : w1.cell? ⟨b, 1, none⟩ = some v := by rw [Lib.cell_of_heap hbk]; rfl
 have HZ := hb1.size
 have hlt : b < w1.heap.size := by
  rcases Nat.lt_or_ge b w1.heap.size with h' | h'
  ·exact h'
  ·simp [Array.getElem?_eq_none h'] at hbk
 go_wp2_with (at_builtin; refine Lib.wpList_append_own_string w1 ?_ (.tmp 12) (.tmp 13) 77 9 ?_ B 5 i0 Tryz.underlying77 Tryz.underlying9 hi hz0 hz1 hz2 v bs.length bs ?_ hown s ?_ ?_ ?_ ?_ ?_; exact rfl; exact rfl; exact rfl; exact rfl; (unfold maxLen; omega); omega; omega)
 intro v' w2 hown' hgrow hnil
 have hk2 : TKeep w w2 := hk1.grown hown hgrow
 have hb2 : w2.heap[b]? = some (.cells #[.pointer (some ⟨b, 0, none⟩), v] 79 (0, 0)) := by
  rw [hgrow.block b hlt (fun e => hne e.symm)]
  exact hbk
 have d1 : w2.cell? ⟨b, 1, none⟩ = some v := by rw [Lib.cell_of_heap hb2]; rfl
 have f1 : w2.frozen? ⟨b, 1, none⟩ = false := Lib.frozen_of_heap hb2 1
 have hlen' : (bs ++ Lib.strCells s).length = bs.length + s.size := by simp [Lib.strCells_length]
 have hbel : Below B w w2 := hb1.grown hgrow (by omega) (fun k hk => (hown.lt k hk).1)
 have hcase : v' = .slice none 0 0 ∨ ∃ g n cap, v' = .slice (some ⟨g, 0, none⟩) n cap := by
  rcases hown'.2 with ⟨h, h0⟩ | ⟨g, cap, cur, hv, _⟩
  ·exact .inl h
  ·exact .inr ⟨g, _, cap, hv⟩
 rcases hcase with rfl | ⟨g, n, cap, rfl⟩
 ·go_wp2
  go_ret2
  refine ⟨rfl, ⟨?_, hbel.setCell (p := ⟨b, 1, none⟩) hB _⟩, hk2.setCell hb2 1 _⟩
  exact Lib.BuilderAt.put (T := 79) (e := 5) hB hb2 (bs' := bs ++ Lib.strCells s) (by rw [hlen']; exact hown') (by decide)
 ·go_wp2
  go_ret2
  refine ⟨rfl, ⟨?_, hbel.setCell (p := ⟨b, 1, none⟩) hB _⟩, hk2.setCell hb2 1 _⟩
  exact Lib.BuilderAt.put (T := 79) (e := 5) hB hb2 (bs' := bs ++ Lib.strCells s) (by rw [hlen']; exact hown') (by decide)
theorem writeString_t (B b : Nat) (l : List UInt8) (s : ByteArray) (w : World) (h : Bld B b l w) (hlen : l.length + s.size ≤ 100000000000) (hBw : B ≤ w.heap.size) :
  Calls Tryz.prog 55 #[.pointer (some ⟨b, 0, none⟩), .string s] w fun e w' => e = .returned (.tuple #[.int .i64 s.size, .nilIface]) ∧ Bld B b (l ++ s.data.toList) w' ∧ Below B w w' ∧ TKeep w w' := by
 refine (writeString_k B b (bcells l) s w h (by rw [bcells_length]; omega) hBw).mono fun e w' h => ⟨h.1, ?_, h.2.1.2, h.2.2⟩
 unfold Bld
 rw [bcells_append, ← strCells_b]
 exact .inr h.2.1.1
def fmtK (l : List Pr) (k : Nat) : List UInt8 := barC ((l.take k).map fmtC)
theorem fmtK_first (l : List Pr) (h : 0 < l.length) : fmtK l (0 + 1) = fmtK l 0 ++ (lowS (prAt l 0).1).data.toList ++ [61] ++ (escS (foldS (prAt l 0).2)).data.toList := by
 unfold fmtK
 rw [pr_take l 0 h, List.take_zero, List.nil_append, List.map_cons, List.map_nil]
 show fmtC (prAt l 0) = _
 unfold fmtC escS; simp [barC, ofB_data]
theorem fmtK_next (l : List Pr) (k : Nat) (h : k < l.length) (h0 : 0 < k) : fmtK l (k + 1) = fmtK l k ++ [44] ++ (lowS (prAt l k).1).data.toList ++ [61] ++ (escS (foldS (prAt l k).2)).data.toList := by
 unfold fmtK
 rw [pr_take l k h, List.map_append, List.map_cons, List.map_nil, barC_snoc _ _ (by
  intro e; have := congrArg List.length e; rw [List.length_map, List.length_take, List.length_nil] at this; omega)]
 unfold fmtC escS; simp [ofB_data]
theorem barC_len (m : Nat) : ∀ l : List (List UInt8), (∀ p ∈ l, p.length ≤ m) → (barC l).length ≤ l.length * (m + 1)
 | [], _ => by simp [barC]
 | [p], h => by have := h p (by simp); simp [barC]; omega
 | p :: q :: r, h => by
  have h1 := h p (by simp)
  have ih := barC_len m (q :: r) (fun x hx => h x (by simp at hx ⊢; exact .inr hx))
  rw [show barC (p :: q :: r) = p ++ 44 :: barC (q :: r) from rfl, List.length_append, List.length_cons, List.length_cons, Nat.add_mul]
  omega
theorem fmtC_len (p : Pr) : (fmtC p).length ≤ p.1.size + 1 + 2 * p.2.size := by
 unfold fmtC
 have h1 := escV_len (foldS p.2).data.toList
 rw [← Lib.size_eq] at h1
 have h2 := foldS_size p.2
 have h3 : (lowS p.1).data.toList.length = p.1.size := by rw [← Lib.size_eq, lowS_size]
 rw [List.length_append, List.length_cons, h3]; omega
def Small (l : List Pr) : Prop := l.length ≤ 1000 ∧ ∀ j, j < l.length → (prAt l j).1.size ≤ 1100000 ∧ (prAt l j).2.size ≤ 1100000
theorem prAt_mem (l : List Pr) {p : Pr} (h : p ∈ l) : ∃ j, j < l.length ∧ prAt l j = p := by
 obtain ⟨j, hj, rfl⟩ := List.getElem_of_mem h
 exact ⟨j, hj, by unfold prAt; rw [List.getD_eq_getElem?_getD, List.getElem?_eq_getElem hj]; rfl⟩
theorem mem_prAt (l : List Pr) {j : Nat} (h : j < l.length) : prAt l j ∈ l := by
 unfold prAt; rw [List.getD_eq_getElem?_getD, List.getElem?_eq_getElem h]; exact List.getElem_mem h
theorem small_of (l : List Pr) (h1 : l.length ≤ 1000) (h : ∀ p ∈ l, p.1.size ≤ 1100000 ∧ p.2.size ≤ 1100000) : Small l := ⟨h1, fun j hj => h _ (mem_prAt l hj)⟩
theorem Small.mem {l : List Pr} (h : Small l) : ∀ p ∈ l, p.1.size ≤ 1100000 ∧ p.2.size ≤ 1100000 := fun p hp => by
 obtain ⟨j, hj, rfl⟩ := prAt_mem l hp
 exact h.2 j hj
theorem fmtK_len {l : List Pr} (h : Small l) (k : Nat) : (fmtK l k).length ≤ 4000000000 := by
 have h1 := barC_len 3300001 ((l.take k).map fmtC) (fun p hq => by
  obtain ⟨q, hq1, rfl⟩ := List.mem_map.1 hq
  have h2 := h.mem q (List.mem_of_mem_take hq1)
  have h3 := fmtC_len q
  omega)
 have h2 : ((l.take k).map fmtC).length ≤ 1000 := by have := h.1; simp; omega
 unfold fmtK
 have := Nat.mul_le_mul_right (3300001 + 1) h2
 omega
theorem fmtFirst_step {l : List Pr} {k : Nat} (h : fmtFirst (l.take k) = 0) (hk : k < l.length) : (prE (prAt l k) = 0 → fmtFirst (l.take (k + 1)) = 0) ∧ (prE (prAt l k) ≠ 0 → fmtE l = prE (prAt l k) ∧ fmtV l = ByteArray.empty) := by
 have hall := fmtFirst_all h
 have happ : ∀ (a b : List Pr), fmtFirst a = 0 → fmtFirst (a ++ b) = fmtFirst b := fun a b ha => by
  induction a with
  | nil => rfl
  | cons p r ih =>
   unfold fmtFirst at ha
   by_cases hp : prE p = 0
   ·rw [if_pos hp] at ha
    show (if prE p = 0 then fmtFirst (r ++ b) else prE p) = _
    rw [if_pos hp, ih ha]
   ·rw [if_neg hp] at ha; exact absurd ha hp
 refine ⟨fun e => ?_, fun e => ?_⟩
 ·rw [pr_take l k hk, happ _ _ h]; unfold fmtFirst; rw [if_pos e]; rfl
 ·have h2 : l = l.take k ++ prAt l k :: l.drop (k + 1) := by
   have := pr_take l k hk
   conv => lhs; rw [← List.take_append_drop (k + 1) l, this]
   simp
  have h3 : fmtFirst l = prE (prAt l k) := by
   rw [h2, happ _ _ h]; unfold fmtFirst
   rw [← h2, if_neg e]
  have h4 : fmtE l = prE (prAt l k) := by unfold fmtE; rw [h3, if_neg e]
  exact ⟨h4, by unfold fmtV; rw [h4, if_neg e]⟩
theorem fmt_end {l : List Pr} (h : fmtFirst (l.take l.length) = 0) : (8 < l.length → fmtE l = 3 ∧ fmtV l = ByteArray.empty) ∧ (¬ 8 < l.length → fmtE l = 0 ∧ fmtV l = ofB (fmtK l l.length)) := by
 rw [List.take_length] at h
 refine ⟨fun hl => ?_, fun hl => ?_⟩
 ·have h4 : fmtE l = 3 := by unfold fmtE; rw [if_pos h, if_pos hl]
  exact ⟨h4, by unfold fmtV; rw [h4]; rfl⟩
 ·have h4 : fmtE l = 0 := by unfold fmtE; rw [if_pos h, if_neg hl]
  exact ⟨h4, by unfold fmtV fmtK; rw [if_pos h4, List.take_length]⟩
theorem B7lt {B b : Nat} {l : List UInt8} {w : World} (h : Bld B b l w) : b < w.heap.size := by
 rcases h with h | h <;> exact h.lt
set_option maxRecDepth 100000 in
set_option maxHeartbeats 8000000 in
theorem format_s (ao : Option Addr) (n cap : Nat) (l : List Pr) (w : World) (h : PairsAt w ao n cap l) (hsm : Small l) :
  Calls Tryz.prog 132 #[.slice ao n cap] w fun e w' => e = .returned (.tuple #[.string (fmtV l), .int .i64 (fmtE l)]) ∧ Below w.heap.size w w' := by
 obtain ⟨h1, h2, h3, h4⟩ := h
 subst h1
 have HS := Lib.hid hsm
 have hl0 := hsm.1
 clear hsm
 have HN := Lib.hid (bld_new w)
 have H4 := Lib.hid h4; clear h4
 go_enter Tryz.func132, Tryz.ntmps132
 go_wp2
 go_loopw [10] (fun i wr => ∃ k : Nat, k ≤ l.length ∧ i = .int .i64 k ∧ Bld w.heap.size w.heap.size (fmtK l k) wr ∧ Below w.heap.size w wr ∧ w.heap.size < wr.heap.size ∧ Hid (fmtFirst (l.take k) = 0))
  (fun i _ => l.length - (intOf i).toNat)
 case atStart => exact ⟨0, Nat.zero_le _, rfl, HN.out, (Below.refl _ _).alloc (Nat.le_refl _) _, by simp, Lib.hid rfl⟩
 case round =>
  obtain ⟨k, hk, rfl, HBd, hbel, hsz, HF⟩ := hrel
  have hln := fmtK_len HS.out k
  by_cases hlt : k < l.length
  ·obtain ⟨b, off, rfl, hs⟩ := H4.out (by omega)
   obtain ⟨hc1, hc2⟩ := (hs.below hbel hs.1).2 k hlt
   obtain ⟨hpk, hpv⟩ := HS.out.2 k hlt
   have HST := Lib.hid (fmtFirst_step HF.out hlt)
   have HK1 := Lib.hid (fun (_ : k = 0) => fmtK_first l (by omega))
   have HK2 := Lib.hid (fun (h0 : 0 < k) => fmtK_next l k hlt h0)
   obtain ⟨⟨p, q⟩, hpe⟩ : ∃ p, p = prAt l k := ⟨_, rfl⟩
   have HPE := Lib.hid hpe
   rw [← hpe] at hc1 hc2 hpk hpv HST HK2
   simp only [] at hc1 hc2 hpk hpv
   clear hs hpe
   have hfz := foldS_size q
   have hlz := lowS_size p
   have hez := escS_size (foldS q)
   go_wp2_with fail
   refine (check_s (p, q) _ (by simp only []; omega) (by simp only []; omega)).mono ?_
   rintro e w1 ⟨rfl, hb1⟩
   have hbx := (pbox_new wr (p, q)).below hb1
   have hbl := (below_new (w := wr) (.cells #[.string p, .string q] 192))
   have hb01 := below_next hbl hb1
   have L1 := hbel.trans (hb01.mono hbel.size)
   have B1 := HBd.below hb01
   by_cases hE : prE (p, q) = 0
   ·have HFN := Lib.hid (HST.out.1 hE)
    rw [hE]
    clear hE HST hc1 hc2
    obtain ⟨d0, d1⟩ := hbx.cells
    simp only [] at d0 d1
    by_cases hk0 : k = 0
    ·have HK := Lib.hid (show fmtK l (k + 1) = fmtK l k ++ (lowS p).data.toList ++ [61] ++ (escS (foldS q)).data.toList by
      have := HK1.out hk0
      subst hk0
      rw [← HPE.out] at this
      exact this)
     have hd0 : decide (0 < k) = false := by simp; omega
     clear hk0 HK1 HK2
     clear d1
     go_wp2_with fail
     refine (lower_s p _ (by omega)).mono ?_
     rintro e w2 ⟨rfl, hb2⟩
     have B2 := B1.below hb2
     have L2 := L1.trans (hb2.mono L1.size)
     have X2 := hbx.below hb2
     clear d0
     go_wp2_with fail
     refine (writeString_t w.heap.size w.heap.size _ _ _ B2 (by (try simp only [List.length_append, List.length_cons, List.length_nil]); omega) L2.size).mono ?_
     rintro e w3 ⟨rfl, B3, hb3, hk3⟩
     have L3 := L2.trans hb3
     have X3 := hk3.box X2
     go_wp2_with fail
     refine (writeByte_t w.heap.size w.heap.size _ 61 61 _ B3 rfl (by simp only [List.length_append, List.length_cons, List.length_nil, ← Lib.size_eq]; omega) L3.size).mono ?_
     rintro e w4 ⟨rfl, B4, hb4, hk4⟩
     have L4 := L3.trans hb4
     have X4 := hk4.box X3
     obtain ⟨d0, d1⟩ := X4.cells
     simp only [] at d0 d1
     clear d0
     go_wp2_with fail
     refine (fold_s q _ (by omega)).mono ?_
     rintro e w5 ⟨rfl, hb5⟩
     have B5 := B4.below hb5
     have L5 := L4.trans (hb5.mono L4.size)
     clear d1
     go_wp2_with fail
     refine (escaped_s (foldS q) _ (by omega)).mono ?_
     rintro e w6 ⟨rfl, hb6⟩
     have B6 := B5.below hb6
     have L6 := L5.trans (hb6.mono L5.size)
     go_wp2_with fail
     refine (writeString_t w.heap.size w.heap.size _ _ _ B6 (by simp only [List.length_append, List.length_cons, List.length_nil, ← Lib.size_eq]; omega) L6.size).mono ?_
     rintro e w7 ⟨rfl, B7, hb7, hk7⟩
     have L7 := L6.trans hb7
     have hsz7 : w.heap.size < w7.heap.size := B7lt B7
     go_wp2
     go_roundw
     case rel => exact ⟨k + 1, by omega, by go_num, by rw [HK.out]; exact B7, L7, hsz7, HFN⟩
     case measure => simp [intOf]; omega
    ·have HK := Lib.hid (HK2.out (by omega))
     have hd0 : decide (0 < k) = true := by simp; omega
     clear hk0 HK1 HK2
     go_wp2_with fail
     refine (writeByte_t w.heap.size w.heap.size _ 44 44 _ B1 rfl (by omega) L1.size).mono ?_
     rintro e w0 ⟨rfl, B0, hb0, hk0⟩
     have L0 := L1.trans hb0
     have X0 := hk0.box hbx
     clear d0 d1
     obtain ⟨d0, d1⟩ := X0.cells
     simp only [] at d0 d1
     clear d1
     go_wp2_with fail
     refine (lower_s p _ (by omega)).mono ?_
     rintro e w2 ⟨rfl, hb2⟩
     have B2 := B0.below hb2
     have L2 := L0.trans (hb2.mono L0.size)
     have X2 := X0.below hb2
     clear d0
     go_wp2_with fail
     refine (writeString_t w.heap.size w.heap.size _ _ _ B2 (by (try simp only [List.length_append, List.length_cons, List.length_nil]); omega) L2.size).mono ?_
     rintro e w3 ⟨rfl, B3, hb3, hk3⟩
     have L3 := L2.trans hb3
     have X3 := hk3.box X2
     go_wp2_with fail
     refine (writeByte_t w.heap.size w.heap.size _ 61 61 _ B3 rfl (by simp only [List.length_append, List.length_cons, List.length_nil, ← Lib.size_eq]; omega) L3.size).mono ?_
     rintro e w4 ⟨rfl, B4, hb4, hk4⟩
     have L4 := L3.trans hb4
     have X4 := hk4.box X3
     obtain ⟨d0, d1⟩ := X4.cells
     simp only [] at d0 d1
     clear d0
     go_wp2_with fail
     refine (fold_s q _ (by omega)).mono ?_
     rintro e w5 ⟨rfl, hb5⟩
     have B5 := B4.below hb5
     have L5 := L4.trans (hb5.mono L4.size)
     clear d1
     go_wp2_with fail
     refine (escaped_s (foldS q) _ (by omega)).mono ?_
     rintro e w6 ⟨rfl, hb6⟩
     have B6 := B5.below hb6
     have L6 := L5.trans (hb6.mono L5.size)
     go_wp2_with fail
     refine (writeString_t w.heap.size w.heap.size _ _ _ B6 (by simp only [List.length_append, List.length_cons, List.length_nil, ← Lib.size_eq]; omega) L6.size).mono ?_
     rintro e w7 ⟨rfl, B7, hb7, hk7⟩
     have L7 := L6.trans hb7
     have hsz7 : w.heap.size < w7.heap.size := B7lt B7
     go_wp2
     go_roundw
     case rel => exact ⟨k + 1, by omega, by go_num, by rw [HK.out]; exact B7, L7, hsz7, HFN⟩
     case measure => simp [intOf]; omega
   ·have HFN := Lib.hid (HST.out.2 hE)
    have q0 : (prE (p, q) != 0) = true := by simpa using hE
    clear hE HST hc1 hc2
    generalize prE (p, q) = e0 at q0 HFN ⊢
    go_wp2
    go_ret2
    exact ⟨by rw [HFN.out.1, HFN.out.2]; rfl, L1⟩
  ·have HT := Lib.hid (show k = l.length by omega)
   rw [HT.out] at HBd HF
   by_cases h8 : 8 < l.length
   ·have HE := Lib.hid ((fmt_end HF.out).1 h8)
    have hd8 : decide ((8 : Int) < (l.length : Int)) = true := decide_eq_true (by omega)
    go_wp2
    go_ret2
    exact ⟨by rw [HE.out.1, HE.out.2]; rfl, hbel⟩
   ·have HE := Lib.hid ((fmt_end HF.out).2 h8)
    have hd8 : decide ((8 : Int) < (l.length : Int)) = false := decide_eq_false (by omega)
    go_wp2_with (go_at_call 59; refine (string_s w.heap.size w.heap.size _ _ HBd hbel.size).mono ?_; rintro e w1 ⟨rfl, hb1⟩)
    go_ret2
    exact ⟨by rw [HE.out.1, HE.out.2]; rfl, hbel.trans hb1⟩
theorem push_all {ops : Array Oper} {rest : List Oper} {o : Oper} {a : Act} {Q : Exit → Act → World → Prop} (wr : World) {base : Nat} {v : Value} {n : Nat} {xs : List Value} (hown : wr.ownsRow base 5 1 v n xs) (s x : Operand)
  (t : ByteArray) (hgd : o.guard = none)
  (ho : o.op = .call { callee := .builtin .append, args := #[s, x], argTypes := #[77, 9] })
  (hs : a.eval s = v) (hx : a.eval x = .string t) (hn : n + t.size ≤ 140737488355328) (hbase : base ≤ wr.heap.size)
  (h : ∀ v' w', w'.ownsRow base 5 1 v' (n + t.size) (xs ++ bcells t.data.toList) → Below base wr w' → wpList Tryz.prog ops Q rest (a.put o.dst v') w') :
  wpList Tryz.prog ops Q (o :: rest) a wr := by
 obtain ⟨i0, hi, hz0, hz1, hz2⟩ := info_parts info5
 refine Lib.wpList_append_own_string wr hgd s x 77 9 ho base 5 i0 Tryz.underlying77 Tryz.underlying9 hi hz0 hz1 hz2 v n xs hs hown t hx (by unfold maxLen; omega) (by omega) (by omega) ?_
 intro v' w' h1 h2 _
 refine h v' w' (by rw [← strCells_b]; exact h1) ?_
 exact (Below.refl base wr).grown h2 hbase (fun k hk => (hown.lt k hk).1)
theorem bcells_one' (c : UInt8) : bcells [c] = [.int .u8 (c.toNat : Int)] := rfl
set_option maxRecDepth 100000 in
set_option maxHeartbeats 8000000 in
theorem rformat_s (ao : Option Addr) (n cap : Nat) (l : List Pr) (w : World) (h : PairsAt w ao n cap l) (hsm : Small l) :
  Calls Tryz.prog 136 #[.slice ao n cap] w fun e w' => e = .returned (.tuple #[.string (fmtV l), .int .i64 (fmtE l)]) ∧ Below w.heap.size w w' := by
 obtain ⟨h1, h2, h3, h4⟩ := h
 subst h1
 have HS := Lib.hid hsm
 have hl0 := hsm.1
 clear hsm
 have H4 := Lib.hid h4; clear h4
 go_enter Tryz.func136, Tryz.ntmps136
 go_wp2
 go_loopw [4, 5] (fun bv i wr => ∃ k : Nat, k ≤ l.length ∧ i = .int .i64 k ∧ wr.ownsRow w.heap.size 5 1 bv (fmtK l k).length (bcells (fmtK l k)) ∧ Below w.heap.size w wr ∧ Hid (fmtFirst (l.take k) = 0))
  (fun _ i _ => l.length - (intOf i).toNat)
 case atStart => exact ⟨0, Nat.zero_le _, rfl, World.ownsRow_nil _ _ _ _, Below.refl _ _, Lib.hid rfl⟩
 case round =>
  obtain ⟨k, hk, rfl, hown, hbel, HF⟩ := hrel
  have hln := fmtK_len HS.out k
  by_cases hlt : k < l.length
  ·obtain ⟨b, off, rfl, hs⟩ := H4.out (by omega)
   have HC := Lib.hid (show ∀ w', Below w.heap.size w w' → w'.cell? ⟨b, off + k * 2, none⟩ = some (.string (prAt l k).1) ∧ w'.cell? ⟨b, off + k * 2 + 1, none⟩ = some (.string (prAt l k).2) from fun w' hb => (hs.below hb hs.1).2 k hlt)
   obtain ⟨hpk, hpv⟩ := HS.out.2 k hlt
   have HST := Lib.hid (fmtFirst_step HF.out hlt)
   have HK1 := Lib.hid (fun (_ : k = 0) => fmtK_first l (by omega))
   have HK2 := Lib.hid (fun (h0 : 0 < k) => fmtK_next l k hlt h0)
   obtain ⟨⟨p, q⟩, hpe⟩ : ∃ p, p = prAt l k := ⟨_, rfl⟩
   have HPE := Lib.hid hpe
   rw [← hpe] at HC hpk hpv HST HK2
   simp only [] at HC hpk hpv
   clear hs hpe
   have hfz := foldS_size q
   have hlz := lowS_size p
   obtain ⟨hc1, hc2⟩ := HC.out _ hbel
   cases n1 : nameB p
   ·have HFN := Lib.hid (show fmtE l = 5 ∧ fmtV l = ByteArray.empty by
     have hp1 : prE (p, q) = 5 := by unfold prE; rw [if_pos n1]
     have := HST.out.2 (by rw [hp1]; decide)
     rw [hp1] at this; exact this)
    clear hc2
    go_wp2_with (go_at_call 118; refine (rName_s p _ (by omega)).mono ?_; rintro e w' ⟨rfl, rfl⟩; rw [n1])
    go_ret2
    exact ⟨by rw [HFN.out.1, HFN.out.2]; rfl, hbel⟩
   ·cases n2 : cleanB q
    ·have HFN := Lib.hid (show fmtE l = 8 ∧ fmtV l = ByteArray.empty by
      have hp1 : prE (p, q) = 8 := by unfold prE; simp only []; rw [if_neg (by rw [n1]; decide), if_pos n2]
      have := HST.out.2 (by rw [hp1]; decide)
      rw [hp1] at this; exact this)
     go_wp2_with (first
      | (go_at_call 118; refine (rName_s p _ (by omega)).mono ?_; rintro e w' ⟨rfl, rfl⟩; rw [n1])
      | (go_at_call 194; refine (rClean_s q _ (by omega)).mono ?_; rintro e w' ⟨rfl, rfl⟩; rw [n2]))
     go_ret2
     exact ⟨by rw [HFN.out.1, HFN.out.2]; rfl, hbel⟩
    ·have HFN := Lib.hid (HST.out.1 (by unfold prE; simp only []; rw [if_neg (by rw [n1]; decide), if_neg (by rw [n2]; decide)]))
     clear HST
     by_cases hk0 : k = 0
     ·skip
      have HK := Lib.hid (show fmtK l (k + 1) = fmtK l k ++ (lowS p).data.toList ++ [61] ++ (escS (foldS q)).data.toList by
       have := HK1.out hk0
       subst hk0
       rw [← HPE.out] at this
       exact this)
      have hd0 : decide (0 < k) = false := by simp; omega
      clear hk0 HK1 HK2
      obtain ⟨pre0, hpre0⟩ : ∃ x, x = fmtK l k := ⟨_, rfl⟩
      rw [← hpre0] at hown hln HK
      have HP0 := Lib.hid hpre0; clear hpre0
      have own0 := hown
      have L0 := hbel
      go_wp2_with (first
       | (go_at_call 118; refine (rName_s p _ (by omega)).mono ?_; rintro e w' ⟨rfl, rfl⟩; rw [n1])
       | (go_at_call 194; refine (rClean_s q _ (by omega)).mono ?_; rintro e w' ⟨rfl, rfl⟩; rw [n2])
       | (go_at_call 81; refine (rLower_s p _ (by omega)).mono ?_; rintro e w1 ⟨rfl, hb1⟩; have L1 := L0.trans (hb1.mono L0.size); have own1 := own_below own0 hb1)
       | (at_builtin; refine push_all _ own1 (.tmp 33) (.tmp 39) (lowS p) ?_ ?_ ?_ ?_ ?_ ?_ ?_; exact rfl; exact rfl; exact rfl; exact rfl; omega; exact L1.size; intro v2 w2 own2 hb2; have L2 := L1.trans hb2)
       | (at_builtin; refine push_byte _ own2 (.tmp 41) (.tmp 42) _ ?_ ?_ ?_ ?_ ?_ ?_ ?_; exact rfl; exact rfl; exact rfl; exact rfl; omega; exact L2.size; intro v3 w3 own3 hb3; have L3 := L2.trans hb3; clear hc1 hc2; obtain ⟨hc1, hc2⟩ := HC.out _ L3)
       | (go_at_call 140; refine (rFold_s q _ (by omega)).mono ?_; rintro e w4 ⟨rfl, hb4⟩; have L4 := L3.trans (hb4.mono L3.size); have own4 := own_below own3 hb4))
      obtain ⟨t, htt⟩ : ∃ t, t = foldS q := ⟨_, rfl⟩
      rw [← htt] at hfz ⊢
      have HTT := Lib.hid htt; clear htt
      rw [← HTT.out] at HK
      have hbt := get_bt t
      have hlow : (lowS p).data.toList.length = (lowS p).size := (Lib.size_eq _).symm
      obtain ⟨pre, hpre⟩ : ∃ x, x = pre0 ++ (lowS p).data.toList ++ [61] := ⟨_, rfl⟩
      have hpl : pre0.length + (lowS p).size + 1 = pre.length := by rw [hpre]; simp only [List.length_append, List.length_cons, List.length_nil, hlow]
      have own5 : w4.ownsRow w.heap.size 5 1 v3 pre.length (bcells pre) := by
       rw [hpl] at own4
       have e : bcells pre = bcells pre0 ++ bcells (lowS p).data.toList ++ [.int .u8 61] := by rw [hpre, bcells_append, bcells_append]; rfl
       rw [e]; exact own4
      rw [← hpre] at HK
      have HPR := Lib.hid hpre; clear hpre own4 own3 own2 own1 own0 hown hc1 hc2
      clear HC
      go_loopw [4, 7] (fun bv i wx => ∃ j : Nat, j ≤ t.size ∧ i = .int .i64 j ∧ wx.ownsRow w.heap.size 5 1 bv (pre ++ escV (t.data.toList.take j)).length (bcells (pre ++ escV (t.data.toList.take j))) ∧ Below w.heap.size w wx)
       (fun _ i _ => t.size - (intOf i).toNat)
      case atStart => exact ⟨0, Nat.zero_le _, rfl, by simpa [escV] using own5, L4⟩
      case round =>
       obtain ⟨j, hj, rfl, ownx, Lx⟩ := hrel
       clear own5
       have hl3 := escV_len (t.data.toList.take j)
       have hl4 : (t.data.toList.take j).length ≤ j := List.length_take_le _ _
       have hl5 : (pre ++ escV (t.data.toList.take j)).length ≤ 100000000000 := by rw [List.length_append]; omega
       by_cases hjt : j < t.size
       ·have HSTE := Lib.hid (escV_step t j hjt)
        have HCC := Lib.hid (bt_chr t j)
        obtain ⟨cur, hcur⟩ : ∃ x, x = pre ++ escV (t.data.toList.take j) := ⟨_, rfl⟩
        rw [← hcur] at ownx hl5
        have HCU := Lib.hid hcur; clear hcur
        cases c1 : spec4 (chr t j)
        ·have HEND := Lib.hid (show pre ++ escV (t.data.toList.take (j + 1)) = cur ++ [chr t j] by rw [HCU.out, HSTE.out]; unfold escB; rw [c1]; simp)
         go_wp2_with (first
          | (go_at_call 214; refine (special_s _ (chr t j) _ HCC.out).mono ?_; rintro e w' ⟨rfl, rfl⟩; rw [c1])
          | (at_builtin; refine push_byte _ ownx (.tmp 63) (.tmp 67) _ ?_ ?_ ?_ ?_ ?_ ?_ ?_; exact rfl; exact rfl; exact rfl; exact rfl; omega; exact Lx.size; intro v6 w6 own6 hb6))
         go_roundw
         case rel => exact ⟨j + 1, by omega, by go_num, by rw [HEND.out, List.length_append, bcells_append, bcells_one']; rw [HCC.out] at own6; exact own6, Lx.trans hb6⟩
         case measure => simp [intOf]; omega
        ·have HEND := Lib.hid (show pre ++ escV (t.data.toList.take (j + 1)) = (cur ++ [92]) ++ [chr t j] by rw [HCU.out, HSTE.out]; unfold escB; rw [c1]; simp)
         go_wp2_with (first
          | (go_at_call 214; refine (special_s _ (chr t j) _ HCC.out).mono ?_; rintro e w' ⟨rfl, rfl⟩; rw [c1])
          | (at_builtin; refine push_byte _ ownx (.tmp 60) (.tmp 61) _ ?_ ?_ ?_ ?_ ?_ ?_ ?_; exact rfl; exact rfl; exact rfl; exact rfl; omega; exact Lx.size; intro v5 w5 own5 hb5; have L5 := Lx.trans hb5)
          | (at_builtin; refine push_byte _ own5 (.tmp 63) (.tmp 67) _ ?_ ?_ ?_ ?_ ?_ ?_ ?_; exact rfl; exact rfl; exact rfl; exact rfl; omega; exact L5.size; intro v6 w6 own6 hb6))
         go_roundw
         case rel => exact ⟨j + 1, by omega, by go_num, by rw [HEND.out, List.length_append, List.length_append, bcells_append, bcells_append, bcells_one', bcells_one']; rw [HCC.out] at own6; exact own6, L5.trans hb6⟩
         case measure => simp [intOf]; omega
       ·have HT := Lib.hid (show fmtK l (k + 1) = pre ++ escV (t.data.toList.take j) by
         rw [HK.out, List.take_of_length_le (show t.data.toList.length ≤ j by rw [← Lib.size_eq]; omega)]; rfl)
        rw [← HT.out] at ownx
        go_wp2
        go_roundw
        case rel => exact ⟨k + 1, by omega, by go_num, ownx, Lx, HFN⟩
        case measure => simp [intOf]; omega
     ·skip
      have HK := Lib.hid (HK2.out (by omega))
      have hd0 : decide (0 < k) = true := by simp; omega
      clear hk0 HK1 HK2
      obtain ⟨preA, hpreA⟩ : ∃ x, x = fmtK l k := ⟨_, rfl⟩
      rw [← hpreA] at hown hln HK
      have HPA := Lib.hid hpreA; clear hpreA
      go_wp2_with (first
       | (go_at_call 118; refine (rName_s p _ (by omega)).mono ?_; rintro e w' ⟨rfl, rfl⟩; rw [n1])
       | (go_at_call 194; refine (rClean_s q _ (by omega)).mono ?_; rintro e w' ⟨rfl, rfl⟩; rw [n2])
       | (at_builtin; refine push_byte _ hown (.tmp 30) (.tmp 31) _ ?_ ?_ ?_ ?_ ?_ ?_ ?_; exact rfl; exact rfl; exact rfl; exact rfl; omega; exact hbel.size; intro v0 w0 own0 hb0; have L0 := hbel.trans hb0; clear hc1 hc2; obtain ⟨hc1, hc2⟩ := HC.out _ L0)
       | (go_at_call 81; refine (rLower_s p _ (by omega)).mono ?_; rintro e w1 ⟨rfl, hb1⟩; have L1 := L0.trans (hb1.mono L0.size); have own1 := own_below own0 hb1)
       | (at_builtin; refine push_all _ own1 (.tmp 33) (.tmp 39) (lowS p) ?_ ?_ ?_ ?_ ?_ ?_ ?_; exact rfl; exact rfl; exact rfl; exact rfl; omega; exact L1.size; intro v2 w2 own2 hb2; have L2 := L1.trans hb2)
       | (at_builtin; refine push_byte _ own2 (.tmp 41) (.tmp 42) _ ?_ ?_ ?_ ?_ ?_ ?_ ?_; exact rfl; exact rfl; exact rfl; exact rfl; omega; exact L2.size; intro v3 w3 own3 hb3; have L3 := L2.trans hb3; clear hc1 hc2; obtain ⟨hc1, hc2⟩ := HC.out _ L3)
       | (go_at_call 140; refine (rFold_s q _ (by omega)).mono ?_; rintro e w4 ⟨rfl, hb4⟩; have L4 := L3.trans (hb4.mono L3.size); have own4 := own_below own3 hb4))
      obtain ⟨t, htt⟩ : ∃ t, t = foldS q := ⟨_, rfl⟩
      rw [← htt] at hfz ⊢
      have HTT := Lib.hid htt; clear htt
      rw [← HTT.out] at HK
      have hbt := get_bt t
      have hlow : (lowS p).data.toList.length = (lowS p).size := (Lib.size_eq _).symm
      obtain ⟨pre, hpre⟩ : ∃ x, x = preA ++ [44] ++ (lowS p).data.toList ++ [61] := ⟨_, rfl⟩
      have hpl : (preA.length + 1) + (lowS p).size + 1 = pre.length := by rw [hpre]; simp only [List.length_append, List.length_cons, List.length_nil, hlow]
      have own5 : w4.ownsRow w.heap.size 5 1 v3 pre.length (bcells pre) := by
       rw [hpl] at own4
       have e : bcells pre = bcells preA ++ [.int .u8 44] ++ bcells (lowS p).data.toList ++ [.int .u8 61] := by rw [hpre, bcells_append, bcells_append, bcells_append]; rfl
       rw [e]; exact own4
      rw [← hpre] at HK
      have HPR := Lib.hid hpre; clear hpre own4 own3 own2 own1 own0 hown hc1 hc2
      clear HC
      go_loopw [4, 7] (fun bv i wx => ∃ j : Nat, j ≤ t.size ∧ i = .int .i64 j ∧ wx.ownsRow w.heap.size 5 1 bv (pre ++ escV (t.data.toList.take j)).length (bcells (pre ++ escV (t.data.toList.take j))) ∧ Below w.heap.size w wx)
       (fun _ i _ => t.size - (intOf i).toNat)
      case atStart => exact ⟨0, Nat.zero_le _, rfl, by simpa [escV] using own5, L4⟩
      case round =>
       obtain ⟨j, hj, rfl, ownx, Lx⟩ := hrel
       clear own5
       have hl3 := escV_len (t.data.toList.take j)
       have hl4 : (t.data.toList.take j).length ≤ j := List.length_take_le _ _
       have hl5 : (pre ++ escV (t.data.toList.take j)).length ≤ 100000000000 := by rw [List.length_append]; omega
       by_cases hjt : j < t.size
       ·have HSTE := Lib.hid (escV_step t j hjt)
        have HCC := Lib.hid (bt_chr t j)
        obtain ⟨cur, hcur⟩ : ∃ x, x = pre ++ escV (t.data.toList.take j) := ⟨_, rfl⟩
        rw [← hcur] at ownx hl5
        have HCU := Lib.hid hcur; clear hcur
        cases c1 : spec4 (chr t j)
        ·have HEND := Lib.hid (show pre ++ escV (t.data.toList.take (j + 1)) = cur ++ [chr t j] by rw [HCU.out, HSTE.out]; unfold escB; rw [c1]; simp)
         go_wp2_with (first
          | (go_at_call 214; refine (special_s _ (chr t j) _ HCC.out).mono ?_; rintro e w' ⟨rfl, rfl⟩; rw [c1])
          | (at_builtin; refine push_byte _ ownx (.tmp 63) (.tmp 67) _ ?_ ?_ ?_ ?_ ?_ ?_ ?_; exact rfl; exact rfl; exact rfl; exact rfl; omega; exact Lx.size; intro v6 w6 own6 hb6))
         go_roundw
         case rel => exact ⟨j + 1, by omega, by go_num, by rw [HEND.out, List.length_append, bcells_append, bcells_one']; rw [HCC.out] at own6; exact own6, Lx.trans hb6⟩
         case measure => simp [intOf]; omega
        ·have HEND := Lib.hid (show pre ++ escV (t.data.toList.take (j + 1)) = (cur ++ [92]) ++ [chr t j] by rw [HCU.out, HSTE.out]; unfold escB; rw [c1]; simp)
         go_wp2_with (first
          | (go_at_call 214; refine (special_s _ (chr t j) _ HCC.out).mono ?_; rintro e w' ⟨rfl, rfl⟩; rw [c1])
          | (at_builtin; refine push_byte _ ownx (.tmp 60) (.tmp 61) _ ?_ ?_ ?_ ?_ ?_ ?_ ?_; exact rfl; exact rfl; exact rfl; exact rfl; omega; exact Lx.size; intro v5 w5 own5 hb5; have L5 := Lx.trans hb5)
          | (at_builtin; refine push_byte _ own5 (.tmp 63) (.tmp 67) _ ?_ ?_ ?_ ?_ ?_ ?_ ?_; exact rfl; exact rfl; exact rfl; exact rfl; omega; exact L5.size; intro v6 w6 own6 hb6))
         go_roundw
         case rel => exact ⟨j + 1, by omega, by go_num, by rw [HEND.out, List.length_append, List.length_append, bcells_append, bcells_append, bcells_one', bcells_one']; rw [HCC.out] at own6; exact own6, L5.trans hb6⟩
         case measure => simp [intOf]; omega
       ·have HT := Lib.hid (show fmtK l (k + 1) = pre ++ escV (t.data.toList.take j) by
         rw [HK.out, List.take_of_length_le (show t.data.toList.length ≤ j by rw [← Lib.size_eq]; omega)]; rfl)
        rw [← HT.out] at ownx
        go_wp2
        go_roundw
        case rel => exact ⟨k + 1, by omega, by go_num, ownx, Lx, HFN⟩
        case measure => simp [intOf]; omega
  ·have HT := Lib.hid (show k = l.length by omega)
   rw [HT.out] at hown HF
   by_cases h8 : 8 < l.length
   ·have HE := Lib.hid ((fmt_end HF.out).1 h8)
    have hd8 : decide ((8 : Int) < (l.length : Int)) = true := decide_eq_true (by omega)
    go_wp2
    go_ret2
    exact ⟨by rw [HE.out.1, HE.out.2]; rfl, hbel⟩
   ·have HE := Lib.hid ((fmt_end HF.out).2 h8)
    have hd8 : decide ((8 : Int) < (l.length : Int)) = false := decide_eq_false (by omega)
    have hbk := back hown
    go_wp2
    go_ret2
    exact ⟨by rw [HE.out.1, HE.out.2]; rfl, hbel⟩
theorem prE_small {p : Pr} (h : prE p = 0) : p.1.size ≤ 64 ∧ p.2.size ≤ 256 := by
 obtain ⟨h1, h2⟩ := (prE_zero p).1 h
 unfold nameB at h1
 unfold cleanB at h2
 simp only [Bool.and_eq_true, decide_eq_true_eq] at h1 h2
 exact ⟨h1.1.1.2, h2.1.1.1.2⟩
theorem small_fine {l : List Pr} (h : ∀ p ∈ l, prE p = 0) (h8 : l.length ≤ 8) : Small l := small_of l (by omega) fun p hp => by have := prE_small (h p hp); omega
theorem small_parse (s : ByteArray) : Small (parseV s) := by
 by_cases h : parseE s = 0
 ·exact small_fine (parseV_ok h).1 (parseV_ok h).2
 ·unfold parseV; rw [if_neg h]; exact ⟨by simp, fun j hj => by simp at hj⟩
theorem str_eq (a b : ByteArray) : (a.toList == b.toList) = decide (a = b) := by
 rw [Lib.toList_data, Lib.toList_data, Bool.eq_iff_iff, beq_iff_eq, decide_eq_true_eq]
 exact ⟨fun h => by rw [← Lib.mk_data a, ← Lib.mk_data b, h], fun h => by rw [h]⟩
def CompsPost (s : ByteArray) (w : World) (e : Ending) (w' : World) : Prop :=
 ∃ v, e = .returned (.tuple #[v, .bool (normB s)]) ∧ w'.ownsRow w.heap.size 192 2 v (compsV s).length (pcells (compsV s)) ∧ Below w.heap.size w w'
set_option maxRecDepth 100000 in
set_option maxHeartbeats 2000000 in
theorem components_s (s : ByteArray) (w : World) (hs : s.size ≤ 1100000) :
  Calls Tryz.prog 126 #[.string s] w (CompsPost s w) := by
 go_enter Tryz.func126, Tryz.ntmps126
 go_wp2_with fail
 refine (parse_s s _ hs).mono ?_
 rintro e w1 ⟨v, rfl, hown, hb⟩
 by_cases hE : parseE s = 0
 ·obtain ⟨ao, cap, rfl, hat⟩ := pairs_own hown rfl
  have hF := fmt_parse_ok hE
  rw [hE]
  go_wp2_with fail
  refine (format_s ao _ cap (parseV s) _ hat (small_parse s)).mono ?_
  rintro e w2 ⟨rfl, hb2⟩
  rw [hF]
  have hown2 := own_below hown hb2
  have L2 := hb.trans (hb2.mono hb.size)
  by_cases hq : fmtV (parseV s) = s
  ·have HN := Lib.hid (show normB s = true from (norm_iff s).2 ⟨hE, hq⟩)
   have HV := Lib.hid (show compsV s = parseV s by unfold compsV; rw [HN.out]; rfl)
   have q1 : ((fmtV (parseV s)).toList == s.toList) = true := by rw [str_eq]; exact decide_eq_true hq
   have q2 : ((fmtV (parseV s)).toList != s.toList) = false := by unfold bne; rw [q1]; rfl
   clear hq hE hF
   go_wp2
   go_ret2
   exact ⟨_, by rw [HN.out]; rfl, by rw [HV.out]; exact hown2, L2⟩
  ·have HN := Lib.hid (show normB s = false by rw [Bool.eq_false_iff]; intro e; exact hq ((norm_iff s).1 e).2)
   have q1 : ((fmtV (parseV s)).toList == s.toList) = false := by rw [str_eq]; exact decide_eq_false hq
   have q2 : ((fmtV (parseV s)).toList != s.toList) = true := by unfold bne; rw [q1]; rfl
   clear hq hE hF
   go_wp2
   go_ret2
   exact ⟨_, by rw [HN.out]; rfl, by rw [comps_none HN.out]; exact World.ownsRow_nil _ _ _ _, L2⟩
 ·have HN := Lib.hid (show normB s = false by rw [Bool.eq_false_iff]; intro e; exact hE ((norm_iff s).1 e).1)
  have q0 : (parseE s != 0) = true := by simpa using hE
  clear hE
  generalize parseE s = k at q0 ⊢
  go_wp2
  go_ret2
  exact ⟨_, by rw [HN.out]; rfl, by rw [comps_none HN.out]; exact World.ownsRow_nil _ _ _ _, hb⟩
set_option maxRecDepth 100000 in
set_option maxHeartbeats 2000000 in
theorem clean0_s (s : ByteArray) (w : World) (hs : s.size ≤ 1100000) :
  Calls Tryz.prog 76 #[.string s] w fun e w' => e = .returned (.tuple #[.string (cleanV s), .int .i64 (cleanE s)]) ∧ Below w.heap.size w w' := by
 go_enter Tryz.func76, Tryz.ntmps76
 go_wp2_with fail
 refine (parse_s s _ hs).mono ?_
 rintro e w1 ⟨v, rfl, hown, hb⟩
 by_cases hE : parseE s = 0
 ·obtain ⟨ao, cap, rfl, hat⟩ := pairs_own hown rfl
  have HV := Lib.hid (show cleanV s = fmtV (parseV s) ∧ cleanE s = fmtE (parseV s) by unfold cleanV cleanE; rw [if_pos hE, if_pos hE]; exact ⟨rfl, rfl⟩)
  rw [hE]
  clear hE
  go_wp2_with fail
  refine (format_s ao _ cap (parseV s) _ hat (small_parse s)).mono ?_
  rintro e w2 ⟨rfl, hb2⟩
  go_wp2
  go_ret2
  exact ⟨by rw [HV.out.1, HV.out.2]; rfl, hb.trans (hb2.mono hb.size)⟩
 ·have HV := Lib.hid (show cleanV s = ByteArray.empty ∧ cleanE s = parseE s by unfold cleanV cleanE; rw [if_neg hE, if_neg hE]; exact ⟨rfl, rfl⟩)
  have q0 : (parseE s != 0) = true := by simpa using hE
  clear hE
  generalize parseE s = k at q0 HV ⊢
  go_wp2
  go_ret2
  exact ⟨by rw [HV.out.1, HV.out.2]; rfl, hb⟩
set_option maxRecDepth 100000 in
set_option maxHeartbeats 2000000 in
theorem rclean0_s (s : ByteArray) (w : World) (hs : s.size ≤ 1100000) :
  Calls Tryz.prog 79 #[.string s] w fun e w' => e = .returned (.tuple #[.string (cleanV s), .int .i64 (cleanE s)]) ∧ Below w.heap.size w w' := by
 go_enter Tryz.func79, Tryz.ntmps79
 go_wp2_with fail
 refine (rparse_s s _ hs).mono ?_
 rintro e w1 ⟨v, rfl, hown, hb⟩
 by_cases hE : parseE s = 0
 ·obtain ⟨ao, cap, rfl, hat⟩ := pairs_own hown rfl
  have HV := Lib.hid (show cleanV s = fmtV (parseV s) ∧ cleanE s = fmtE (parseV s) by unfold cleanV cleanE; rw [if_pos hE, if_pos hE]; exact ⟨rfl, rfl⟩)
  rw [hE]
  clear hE
  go_wp2_with fail
  refine (rformat_s ao _ cap (parseV s) _ hat (small_parse s)).mono ?_
  rintro e w2 ⟨rfl, hb2⟩
  go_wp2
  go_ret2
  exact ⟨by rw [HV.out.1, HV.out.2]; rfl, hb.trans (hb2.mono hb.size)⟩
 ·have HV := Lib.hid (show cleanV s = ByteArray.empty ∧ cleanE s = parseE s by unfold cleanV cleanE; rw [if_neg hE, if_neg hE]; exact ⟨rfl, rfl⟩)
  have q0 : (parseE s != 0) = true := by simpa using hE
  clear hE
  generalize parseE s = k at q0 HV ⊢
  go_wp2
  go_ret2
  exact ⟨by rw [HV.out.1, HV.out.2]; rfl, hb⟩
set_option maxRecDepth 100000 in
set_option maxHeartbeats 2000000 in
theorem valid_s (s : ByteArray) (w : World) (hs : s.size ≤ 1100000) :
  Calls Tryz.prog 72 #[.string s] w fun e w' => e = .returned (.bool (normB s)) ∧ Below w.heap.size w w' := by
 go_enter Tryz.func72, Tryz.ntmps72
 go_wp2_with fail
 refine (components_s s _ hs).mono ?_
 rintro e w1 ⟨v, rfl, hown, hb⟩
 go_wp2
 go_ret
 exact ⟨rfl, hb⟩
set_option maxRecDepth 100000 in
set_option maxHeartbeats 2000000 in
theorem rvalid_s (s : ByteArray) (w : World) (hs : s.size ≤ 1100000) :
  Calls Tryz.prog 74 #[.string s] w fun e w' => e = .returned (.bool (normB s)) ∧ Below w.heap.size w w' := by
 have HN := Lib.hid (norm_clean s)
 go_enter Tryz.func74, Tryz.ntmps74
 go_wp2_with fail
 refine (rclean0_s s _ hs).mono ?_
 rintro e w1 ⟨rfl, hb⟩
 by_cases hE : cleanE s = 0
 ·have q1 := str_eq (cleanV s) s
  have q0 : (cleanE s == 0) = true := by simpa using hE
  cases c : decide (cleanV s = s)
  ·rw [c] at q1 HN
   have HF := Lib.hid (show normB s = false by rw [HN.out]; simp)
   clear hE
   go_wp2
   go_ret
   exact ⟨by rw [HF.out]; rfl, hb⟩
  ·rw [c] at q1 HN
   have HF := Lib.hid (show normB s = true by rw [HN.out, hE]; rfl)
   clear hE
   go_wp2
   go_ret
   exact ⟨by rw [HF.out]; rfl, hb⟩
 ·have q0 : (cleanE s == 0) = false := by simpa using hE
  have HF := Lib.hid (show normB s = false by rw [HN.out, decide_eq_false hE]; rfl)
  clear hE
  go_wp2
  go_ret
  exact ⟨by rw [HF.out]; rfl, hb⟩
theorem pcells_len : ∀ l : List Pr, (pcells l).length = l.length * 2
 | [] => rfl
 | p :: l => by
  have h := pcells_len l
  have e : pcells (p :: l) = .string p.1 :: .string p.2 :: pcells l := rfl
  rw [e, List.length_cons, List.length_cons, h, List.length_cons]; omega
theorem pcells_one (l : List Pr) : ∀ u ∈ pcells l, u.oneCell' = true := by
 intro u hu
 obtain ⟨p, _, hp⟩ := List.mem_flatMap.1 hu
 simp at hp
 rcases hp with rfl | rfl <;> rfl
theorem pairs_cells {w : World} {b off : Nat} {ps : List Pr} (h : IsPairs w b off ps) : ∀ j u, (pcells ps)[j]? = some u → w.cell? ((⟨b, off, none⟩ : Addr).add j) = some u := by
 intro j u hj
 rw [WideShapes.add_plain]
 have hl : j < (pcells ps).length := by
  rcases Nat.lt_or_ge j (pcells ps).length with k | k
  ·exact k
  ·rw [List.getElem?_eq_none k] at hj; cases hj
 rw [pcells_len] at hl
 have hk := pcells_at ps (j / 2) (by omega)
 have hc := h.2 (j / 2) (by omega)
 rcases Nat.mod_two_eq_zero_or_one j with e | e
 ·have e2 : j / 2 * 2 = j := by omega
  rw [e2] at hk hc
  rw [hk.1] at hj
  rw [hc.1]; exact hj
 ·have e2 : j / 2 * 2 + 1 = j := by omega
  rw [e2] at hk
  rw [show off + j / 2 * 2 + 1 = off + j by omega] at hc
  rw [hk.2] at hj
  rw [hc.2]; exact hj
theorem app_pairs {ops : Array Oper} {rest : List Oper} {o : Oper} {a : Act} {Q : Exit → Act → World → Prop} (wr : World) {base : Nat} {v : Value} {n : Nat} {xs : List Value} (hown : wr.ownsRow base 192 2 v n xs) (s x : Operand)
  (ao : Option Addr) (m c : Nat) (news : List Pr) (hgd : o.guard = none)
  (ho : o.op = .call { callee := .builtin .append, args := #[s, x], argTypes := #[147, 147] })
  (hs : a.eval s = v) (hx : a.eval x = .slice ao m c) (hw : PairsAt wr ao m c news) (h0 : ao = none → c = 0) (hn : n + m ≤ 1000000000) (hbase : base ≤ wr.heap.size)
  (h : ∀ v' w', w'.ownsRow base 192 2 v' (n + m) (xs ++ pcells news) → Below base wr w' → wpList Tryz.prog ops Q rest (a.put o.dst v') w') :
  wpList Tryz.prog ops Q (o :: rest) a wr := by
 obtain ⟨i0, hi, hz0, hz1, hz2⟩ := info_parts info_pair
 obtain ⟨w1, w2, w3, w4⟩ := hw
 cases ao with
 | none =>
  have hc := h0 rfl
  subst hc
  have hm : m = 0 := by omega
  subst hm
  have hnil : news = [] := List.length_eq_zero_iff.1 w1
  subst hnil
  refine wpList_append_own_none hgd s x 147 ho base 192 i0 2 Tryz.underlying147 hi v n xs hs hown hx ?_
  have := h v wr (by rw [show pcells [] = [] from rfl, List.append_nil]; exact hown) (Below.refl _ _)
  exact this
 | some ad =>
  have hnews : ∀ j u, (pcells news)[j]? = some u → wr.cell? (ad.add j) = some u := by
   rcases Nat.eq_zero_or_pos m with e | e
   ·have hnil : news = [] := List.length_eq_zero_iff.1 (by omega)
    subst hnil
    intro j u hj; simp [pcells] at hj
   ·obtain ⟨b, off, e2, hi2⟩ := w4 e
    cases e2
    exact pairs_cells hi2
  refine wpList_append_own _ hgd s x 147 ho base 192 i0 (.agg #[.string ⟨#[]⟩, .string ⟨#[]⟩]) 2 32 Tryz.underlying147 hi hz0 hz1 hz2 rfl (by decide) v n xs hs hown ad m c (pcells news) hx (by rw [pcells_len, w1]) hnews
   (pcells_one _) (by unfold maxLen; omega) (by omega) hbase ?_
  intro v' w' h1 h2 _
  exact h v' w' h1 ((Below.refl base wr).grown h2 hbase (fun k hk => (hown.lt k hk).1))
theorem pcells_length {l : List Pr} {n : Nat} (h : l.length = n) : (pcells l).length = n * 2 := by rw [pcells_len, h]
theorem app_onto {ops : Array Oper} {rest : List Oper} {o : Oper} {a : Act} {Q : Exit → Act → World → Prop} (wr : World) (s x : Operand) (ao bo : Option Addr) (n m c : Nat) (olds news : List Pr) (hgd : o.guard = none)
  (ho : o.op = .call { callee := .builtin .append, args := #[s, x], argTypes := #[147, 147] })
  (hs : a.eval s = .slice ao n n) (hx : a.eval x = .slice bo m c) (hold : PairsAt wr ao n n olds) (hnone : ao = none → n = 0) (hplain : ∀ ad, ao = some ad → ad.spot = none) (hw : PairsAt wr bo m c news) (h0 : bo = none → c = 0) (hn : n + m ≤ 1100000)
  (h : ∀ xo cap w', PairsAt w' xo (n + m) cap (olds ++ news) → Below wr.heap.size wr w' → wpList Tryz.prog ops Q rest (a.put o.dst (.slice xo (n + m) cap)) w') :
  wpList Tryz.prog ops Q (o :: rest) a wr := by
 obtain ⟨i0, hi, hz0, hz1, hz2⟩ := info_parts info_pair
 cases ao with
 | none =>
  have e0 := hnone rfl
  subst e0
  have e1 : olds = [] := List.length_eq_zero_iff.1 hold.1
  subst e1
  refine app_pairs wr (World.ownsRow_nil wr wr.heap.size 192 2) s x bo m c news hgd ho hs hx hw h0 (by omega) (Nat.le_refl _) ?_
  intro v' w' h1 h2
  obtain ⟨xo, cap, rfl, hat⟩ := pairs_own (l := news) (by rw [List.nil_append] at h1; exact h1) (by rw [hw.1]; omega)
  exact h xo cap w' (by rw [List.nil_append]; exact hat) h2
 | some ad =>
  have hsp := hplain ad rfl
  obtain ⟨b, off, spot⟩ := ad
  simp only at hsp
  subst hsp
  rcases Nat.eq_zero_or_pos m with e | e
  ·subst e
   have e1 : news = [] := List.length_eq_zero_iff.1 hw.1
   subst e1
   have hsrc : Src Tryz.prog i0.size 147 (.slice bo 0 c) 0 [] wr := by
    cases bo with
    | none => exact Src.ofNil wr Tryz.underlying147 c
    | some a2 => exact Src.ofSlice wr Tryz.underlying147 a2 0 c [] (by simp) (fun j u hj => by simp at hj) (fun u hu => by cases hu)
   refine wpList_plain hgd fun K hK => ?_
   have hrun := run_append_room_src (P := Tryz.prog) (w := wr) 147 147 o.type 192 i0 Tryz.underlying147 hi b off n n (.slice bo 0 c) 0 [] hsrc (by omega) (fun j hj => by simp at hj) (fun j hj => by simp at hj)
   unfold Oper.wp
   simp [execOp, ho, resolve, invoke, builtin, hs, hx, hrun, Result.andThen]
   refine hK _ _ (h (some ⟨b, off, none⟩) n wr (by rw [List.append_nil]; exact hold) (Below.refl _ _))
  ·obtain ⟨b2, off2, e2, hi2⟩ := hw.2.2.2 e
   subst e2
   refine wpList_append_grows wr hgd s x 147 ho 192 i0 (.agg #[.string ⟨#[]⟩, .string ⟨#[]⟩]) 2 32 Tryz.underlying147 hi hz0 hz1 hz2 rfl (by decide) (some ⟨b, off, none⟩) n n (pcells olds) hs (fun e => by cases e) (pcells_length hold.1)
    (fun ad had j u hj => ?_) ⟨b2, off2, none⟩ m c (pcells news) hx (pcells_length hw.1) (pairs_cells hi2) (pcells_one _) (by omega) (by unfold maxLen; omega) (by omega) ?_
   ·cases had
    rcases Nat.eq_zero_or_pos n with e0 | e0
    ·have e1 : olds = [] := List.length_eq_zero_iff.1 (by rw [hold.1]; exact e0)
     subst e1; simp [pcells] at hj
    ·obtain ⟨b3, off3, e3, hi3⟩ := hold.2.2.2 e0
     cases e3
     exact pairs_cells hi3 j u hj
   ·intro v' w' h1 h2
    obtain ⟨xo, cap, rfl, hat⟩ := pairs_own (l := olds ++ news) (by rw [pcells_append]; exact h1) (by rw [List.length_append, hold.1, hw.1])
    exact h xo cap w' hat ((Below.refl _ wr).grown h2 (Nat.le_refl _) (fun k hk => by cases hk))
/-! ### copying -/
theorem small_app {l m : List Pr} (h : Small l) (k : Small m) (hn : l.length + m.length ≤ 1000) : Small (l ++ m) := small_of _ (by simp; omega) fun q hq => by
 rcases List.mem_append.1 hq with hq | hq
 ·exact h.mem q hq
 ·exact k.mem q hq
end Nam
end Go.Proofs.YtmmdaegdkikkpaaGreatDoor
end

section
set_option maxRecDepth 100000
namespace Go.Proofs.YtmmdaegdkikkpaaGreatDoor
namespace Nam
open Go.RowKit Go.PlainAid Go.Shelf
open Go.Sort (HoldsK putRowK flatK size_flatK get_flatK holdsK_putRowK)
instance : Inhabited Pr := ⟨(ByteArray.empty, ByteArray.empty)⟩
end Nam
end Go.Proofs.YtmmdaegdkikkpaaGreatDoor
end
