/-
  Texts of the schema layer and of those beneath it, joined: AttL, AttFrame, AttStrs, AttIns, AttMem, AttTw, AttChk. Conditions stand at each contract.
-/
import Derived.Lib.Bytealg
import Derived.WalkKit
import Derived.ProofKit
import Derived.OpenShut
import Derived.SliceStrings
import Derived.Deep.RegionHeld3
import Derived.Deep.AppendLies
import Derived.Deep.SlicePairs
import Derived.Test.YtclfjdnemafmeaaGreatDoorRows
import Derived.Test.YtclfjdnemafmeaaGreatDoorM01
import Derived.Test.YtclfjdnemafmeaaGreatDoorM02

section
/-
  Lists of attributes as values: ascending lists of strings without doubles, the normal form, and what determines it.
-/
set_option maxRecDepth 100000
set_option linter.unusedVariables false
set_option linter.unusedSimpArgs false
set_option linter.unnecessarySimpa false
namespace Go.Proofs.YtclfjdnemafmeaaGreatDoor
open Go.RowKit Go.PlainAid

structure Ord3 {α : Type} (f : α → α → Int) : Prop where
  range : ∀ a b, f a b = -1 ∨ f a b = 0 ∨ f a b = 1
  anti : ∀ a b, f b a = - f a b
  zero : ∀ a b, f a b = 0 ↔ a = b
  trans : ∀ a b c, f a b ≤ 0 → f b c ≤ 0 → f a c ≤ 0
theorem cmpS_ord : Ord3 cmpS :=
  ⟨fun a b => cb_range _ _, fun a b => cb_anti _ _, fun a b => by unfold cmpS; rw [cb_zero]; exact ⟨ba_ext, fun e => by rw [e]⟩, fun a b c h1 h2 => cb_trans _ _ _ h1 h2⟩
theorem cs_irrefl (a : ByteArray) : ¬ cmpS a a < 0 := by have := (cmpS_ord.zero a a).2 rfl; omega
theorem cs_trans {a b c : ByteArray} (h1 : cmpS a b < 0) (h2 : cmpS b c < 0) : cmpS a c < 0 := by
  have h := cmpS_ord.trans a b c (by omega) (by omega)
  by_cases e : cmpS a c = 0
  · have k := (cmpS_ord.zero a c).1 e
    subst k
    have := cmpS_ord.anti a b
    omega
  · omega
theorem cs_asymm {a b : ByteArray} (h : cmpS a b < 0) : ¬ cmpS b a < 0 := by have := cmpS_ord.anti a b; omega
theorem cs_tri (a b : ByteArray) : cmpS a b < 0 ∨ a = b ∨ cmpS b a < 0 := by
  have h1 := cmpS_ord.range a b
  have h2 := cmpS_ord.anti a b
  have h3 := cmpS_ord.zero a b
  by_cases h : cmpS a b = 0
  · exact .inr (.inl (h3.1 h))
  · omega
theorem cs_ne {a b : ByteArray} (h : cmpS a b < 0) : a ≠ b := fun e => by subst e; exact cs_irrefl _ h

/-! ### ascending lists without doubles -/
def Asc (l : List ByteArray) : Prop := l.Pairwise fun a b => cmpS a b < 0
def insS : List ByteArray → ByteArray → List ByteArray
  | [], s => [s]
  | x :: r, s => if cmpS x s < 0 then x :: insS r s else if x = s then x :: r else s :: x :: r
theorem insS_mem {x s : ByteArray} : ∀ {l : List ByteArray}, x ∈ insS l s ↔ x ∈ l ∨ x = s
  | [] => by simp [insS]
  | y :: r => by
    unfold insS
    by_cases h : cmpS y s < 0
    · rw [if_pos h, List.mem_cons, List.mem_cons, insS_mem, or_assoc]
    · rw [if_neg h]
      by_cases e : y = s
      · rw [if_pos e]
        subst e
        simp only [List.mem_cons]
        exact ⟨fun k => k.elim (fun k => .inr k) (fun k => .inl (.inr k)), fun k => k.elim id .inl⟩
      · rw [if_neg e]
        simp only [List.mem_cons]
        exact ⟨fun k => k.elim .inr .inl, fun k => k.elim .inr .inl⟩
theorem insS_asc {s : ByteArray} : ∀ {l : List ByteArray}, Asc l → Asc (insS l s)
  | [], _ => List.pairwise_singleton _ _
  | y :: r, h => by
    have h' := List.pairwise_cons.1 h
    unfold insS
    by_cases hy : cmpS y s < 0
    · rw [if_pos hy]
      refine List.pairwise_cons.2 ⟨fun x hx => ?_, insS_asc h'.2⟩
      rcases insS_mem.1 hx with k | k
      · exact h'.1 x k
      · rw [k]; exact hy
    · rw [if_neg hy]
      by_cases e : y = s
      · rw [if_pos e]; exact h
      · rw [if_neg e]
        have hs : cmpS s y < 0 := (cs_tri y s).elim (fun k => absurd k hy) fun k => k.elim (fun k => absurd k e) id
        refine List.pairwise_cons.2 ⟨fun x hx => ?_, h⟩
        rcases List.mem_cons.1 hx with k | k
        · rw [k]; exact hs
        · exact cs_trans hs (h'.1 x k)
theorem asc_ext : ∀ {a b : List ByteArray}, Asc a → Asc b → (∀ x, x ∈ a ↔ x ∈ b) → a = b
  | [], [], _, _, _ => rfl
  | [], y :: r, _, _, h => absurd ((h y).2 (List.mem_cons_self ..)) (List.not_mem_nil)
  | x :: r, [], _, _, h => absurd ((h x).1 (List.mem_cons_self ..)) (List.not_mem_nil)
  | x :: a, y :: b, ha, hb, h => by
    have ha' := List.pairwise_cons.1 ha
    have hb' := List.pairwise_cons.1 hb
    have e : x = y := by
      rcases List.mem_cons.1 ((h x).1 (List.mem_cons_self ..)) with k | k
      · exact k
      · rcases List.mem_cons.1 ((h y).2 (List.mem_cons_self ..)) with j | j
        · exact j.symm
        · exact absurd (ha'.1 y j) (cs_asymm (hb'.1 x k))
    subst e
    rw [asc_ext ha'.2 hb'.2 fun z => ?_]
    constructor
    · intro hz
      rcases List.mem_cons.1 ((h z).1 (List.mem_cons_of_mem _ hz)) with k | k
      · exact absurd k.symm (cs_ne (ha'.1 z hz))
      · exact k
    · intro hz
      rcases List.mem_cons.1 ((h z).2 (List.mem_cons_of_mem _ hz)) with k | k
      · exact absurd k.symm (cs_ne (hb'.1 z hz))
      · exact k
def sortU (l : List ByteArray) : List ByteArray := l.foldl insS []
theorem foldl_mem {x : ByteArray} : ∀ (l a : List ByteArray), x ∈ l.foldl insS a ↔ x ∈ a ∨ x ∈ l
  | [], a => by simp
  | y :: r, a => by
    rw [List.foldl_cons, foldl_mem r, insS_mem, List.mem_cons, or_assoc]
theorem foldl_asc : ∀ (l a : List ByteArray), Asc a → Asc (l.foldl insS a)
  | [], _, h => h
  | _ :: r, _, h => by rw [List.foldl_cons]; exact foldl_asc r _ (insS_asc h)
theorem sortU_mem {x : ByteArray} {l : List ByteArray} : x ∈ sortU l ↔ x ∈ l := by unfold sortU; rw [foldl_mem]; simp
theorem sortU_asc (l : List ByteArray) : Asc (sortU l) := foldl_asc l [] List.Pairwise.nil
theorem sortU_id {l : List ByteArray} (h : Asc l) : sortU l = l := asc_ext (sortU_asc l) h fun _ => sortU_mem
theorem sortU_snoc (l : List ByteArray) (s : ByteArray) : sortU (l ++ [s]) = insS (sortU l) s := by unfold sortU; rw [List.foldl_append]; rfl
theorem sortU_eq {a b : List ByteArray} (h : ∀ x, x ∈ a ↔ x ∈ b) : sortU a = sortU b :=
  asc_ext (sortU_asc a) (sortU_asc b) fun x => by rw [sortU_mem, sortU_mem]; exact h x
theorem sortU_nil {l : List ByteArray} : sortU l = [] ↔ l = [] := by
  constructor
  · intro h
    cases l with
    | nil => rfl
    | cons x r => exact absurd (h ▸ sortU_mem.2 (List.mem_cons_self ..) : x ∈ ([] : List ByteArray)) List.not_mem_nil
  · intro h; rw [h]; rfl
theorem insS_len : ∀ (l : List ByteArray) (s : ByteArray), (insS l s).length ≤ l.length + 1
  | [], _ => Nat.le_refl _
  | x :: r, s => by
    unfold insS
    have := insS_len r s
    split
    · simpa using this
    · split <;> simp
theorem foldl_len : ∀ (l a : List ByteArray), (l.foldl insS a).length ≤ a.length + l.length
  | [], _ => Nat.le_refl _
  | y :: r, a => by
    rw [List.foldl_cons, List.length_cons]
    have h1 := foldl_len r (insS a y)
    have h2 := insS_len a y
    omega
theorem sortU_len (l : List ByteArray) : (sortU l).length ≤ l.length := by have := foldl_len l []; simpa [sortU] using this
theorem asc_nodup {l : List ByteArray} (h : Asc l) : l.Nodup := h.imp cs_ne
/-- a list without doubles keeps its length -/
theorem insS_len_new : ∀ {l : List ByteArray} {s : ByteArray}, Asc l → s ∉ l → (insS l s).length = l.length + 1
  | [], _, _, _ => rfl
  | x :: r, s, h, hn => by
    unfold insS
    have hr := insS_len_new (List.pairwise_cons.1 h).2 (fun k => hn (List.mem_cons_of_mem _ k))
    by_cases h1 : cmpS x s < 0
    · rw [if_pos h1]; simpa using hr
    · rw [if_neg h1, if_neg (fun e => hn (by rw [e]; exact List.mem_cons_self ..))]; simp
theorem foldl_len_new : ∀ (l a : List ByteArray), Asc a → l.Nodup → (∀ x ∈ l, x ∉ a) → (l.foldl insS a).length = a.length + l.length
  | [], _, _, _, _ => rfl
  | y :: r, a, ha, hl, hd => by
    have hl' := List.nodup_cons.1 hl
    rw [List.foldl_cons, foldl_len_new r _ (insS_asc ha) hl'.2 (fun x hx k => ?_), insS_len_new ha (hd y (List.mem_cons_self ..)), List.length_cons]
    · omega
    · rcases insS_mem.1 k with k | k
      · exact hd x (List.mem_cons_of_mem _ hx) k
      · exact hl'.1 (k ▸ hx)
theorem sortU_len_new {l : List ByteArray} (h : l.Nodup) : (sortU l).length = l.length := by
  have := foldl_len_new l [] List.Pairwise.nil h (fun _ _ => List.not_mem_nil)
  simpa [sortU] using this

/-! ### attributes -/
abbrev At := ByteArray × List ByteArray
/-- the attribute with the name n has the value v -/
def Hs (l : List At) (n v : ByteArray) : Prop := ∃ a ∈ l, a.1 = n ∧ v ∈ a.2
/-- .. whatever the letters' case -/
def Hl (l : List At) (n v : ByteArray) : Prop := ∃ a ∈ l, lowS a.1 = n ∧ v ∈ a.2
structure NF (l : List At) : Prop where
  asc : Asc (l.map (·.1))
  low : ∀ a ∈ l, lowS a.1 = a.1
  vasc : ∀ a ∈ l, Asc a.2
  ne : ∀ a ∈ l, a.2 ≠ []
/-- all values of the attributes with a name in small letters -/
def allV (l : List At) (n : ByteArray) : List ByteArray := (l.filter fun a => decide (lowS a.1 = n)).flatMap (·.2)
def vals (l : List At) (n : ByteArray) : List ByteArray := sortU (allV l n)
def names (l : List At) : List ByteArray := sortU ((l.filter fun a => !a.2.isEmpty).map fun a => lowS a.1)
/-- the normal form -/
def nf (l : List At) : List At := (names l).map fun n => (n, vals l n)
theorem allV_mem {l : List At} {n v : ByteArray} : v ∈ allV l n ↔ Hl l n v := by
  unfold allV Hl
  simp only [List.mem_flatMap, List.mem_filter, decide_eq_true_eq]
  exact ⟨fun ⟨a, ⟨h1, h2⟩, h3⟩ => ⟨a, h1, h2, h3⟩, fun ⟨a, h1, h2, h3⟩ => ⟨a, ⟨h1, h2⟩, h3⟩⟩
theorem vals_mem {l : List At} {n v : ByteArray} : v ∈ vals l n ↔ Hl l n v := by unfold vals; rw [sortU_mem, allV_mem]
theorem vals_asc (l : List At) (n : ByteArray) : Asc (vals l n) := sortU_asc _
theorem names_mem {l : List At} {n : ByteArray} : n ∈ names l ↔ ∃ v, Hl l n v := by
  unfold names Hl
  rw [sortU_mem, List.mem_map]
  constructor
  · rintro ⟨a, ha, e⟩
    rw [List.mem_filter] at ha
    cases h : a.2 with
    | nil => rw [h] at ha; simp at ha
    | cons v r => exact ⟨v, a, ha.1, e, by rw [h]; exact List.mem_cons_self ..⟩
  · rintro ⟨v, a, ha, e, hv⟩
    refine ⟨a, List.mem_filter.2 ⟨ha, ?_⟩, e⟩
    cases h : a.2 with
    | nil => rw [h] at hv; exact absurd hv List.not_mem_nil
    | cons v r => rfl
theorem names_vals {l : List At} {n : ByteArray} : n ∈ names l ↔ vals l n ≠ [] := by
  rw [names_mem]
  constructor
  · rintro ⟨v, hv⟩ e
    have := vals_mem.2 hv
    rw [e] at this
    exact absurd this List.not_mem_nil
  · intro h
    obtain ⟨v, hv⟩ := List.exists_mem_of_ne_nil _ h
    exact ⟨v, vals_mem.1 hv⟩
theorem nf_names (l : List At) : (nf l).map (·.1) = names l := by unfold nf; rw [List.map_map]; exact List.map_id _
theorem nf_mem {l : List At} {a : At} : a ∈ nf l ↔ a.2 = vals l a.1 ∧ a.2 ≠ [] := by
  unfold nf
  rw [List.mem_map]
  constructor
  · rintro ⟨n, hn, rfl⟩; exact ⟨rfl, names_vals.1 hn⟩
  · rintro ⟨h1, h2⟩
    refine ⟨a.1, names_vals.2 (h1 ▸ h2), ?_⟩
    rw [← h1]
theorem nf_NF (l : List At) : NF (nf l) where
  asc := by rw [nf_names]; exact sortU_asc _
  low a ha := by
    obtain ⟨h1, h2⟩ := nf_mem.1 ha
    rw [h1] at h2
    obtain ⟨v, hv⟩ := names_mem.1 (names_vals.2 h2)
    obtain ⟨b, _, e, _⟩ := hv
    rw [← e, lowS_low]
  vasc a ha := by rw [(nf_mem.1 ha).1]; exact vals_asc _ _
  ne a ha := (nf_mem.1 ha).2
theorem hs_nf {l : List At} {n v : ByteArray} : Hs (nf l) n v ↔ Hl l n v := by
  unfold Hs
  constructor
  · rintro ⟨a, ha, rfl, hv⟩
    rw [(nf_mem.1 ha).1, vals_mem] at hv
    exact hv
  · intro h
    have hv := vals_mem.2 h
    exact ⟨(n, vals l n), nf_mem.2 ⟨rfl, fun e => by simp only [] at e; rw [e] at hv; exact absurd hv List.not_mem_nil⟩, rfl, hv⟩
theorem hl_low {l : List At} (h : ∀ a ∈ l, lowS a.1 = a.1) {n v : ByteArray} : Hl l n v ↔ Hs l n v :=
  ⟨fun ⟨a, ha, e, hv⟩ => ⟨a, ha, (h a ha).symm.trans e, hv⟩, fun ⟨a, ha, e, hv⟩ => ⟨a, ha, (h a ha).trans e, hv⟩⟩
theorem hl_nf {l : List At} {n v : ByteArray} : Hl (nf l) n v ↔ Hl l n v := (hl_low (nf_NF l).low).trans hs_nf
/-- of ascending names the one with a name is one alone -/
theorem nf_one {l : List At} (h : Asc (l.map (·.1))) {a b : At} (ha : a ∈ l) (hb : b ∈ l) (e : a.1 = b.1) : a = b := by
  unfold Asc at h
  rw [List.pairwise_map] at h
  rcases List.pairwise_iff_getElem.1 h with h'
  obtain ⟨i, hi, rfl⟩ := List.getElem_of_mem ha
  obtain ⟨j, hj, rfl⟩ := List.getElem_of_mem hb
  rcases Nat.lt_trichotomy i j with k | k | k
  · exact absurd e (cs_ne (h' i j hi hj k))
  · subst k; rfl
  · exact absurd e.symm (cs_ne (h' j i hj hi k))
theorem nf_ext {a b : List At} (ha : NF a) (hb : NF b) (h : ∀ n v, Hs a n v ↔ Hs b n v) : a = b := by
  have key : ∀ {a b : List At}, NF a → NF b → (∀ n v, Hs a n v ↔ Hs b n v) → ∀ x ∈ a, x ∈ b := by
    intro a b ha hb h x hx
    obtain ⟨v, hv⟩ := List.exists_mem_of_ne_nil _ (ha.ne x hx)
    obtain ⟨y, hy, e, _⟩ := (h x.1 v).1 ⟨x, hx, rfl, hv⟩
    have : x.2 = y.2 := asc_ext (ha.vasc x hx) (hb.vasc y hy) fun z => by
      constructor
      · intro hz
        obtain ⟨y', hy', e', hz'⟩ := (h x.1 z).1 ⟨x, hx, rfl, hz⟩
        rw [nf_one hb.asc hy hy' (e.trans e'.symm)]; exact hz'
      · intro hz
        obtain ⟨x', hx', e', hz'⟩ := (h x.1 z).2 ⟨y, hy, e, hz⟩
        rw [nf_one ha.asc hx hx' e'.symm]; exact hz'
    rw [show x = y from Prod.ext e.symm this]; exact hy
  have hm : a.map (·.1) = b.map (·.1) := asc_ext ha.asc hb.asc fun n => by
    rw [List.mem_map, List.mem_map]
    exact ⟨fun ⟨x, hx, e⟩ => ⟨x, key ha hb h x hx, e⟩, fun ⟨x, hx, e⟩ => ⟨x, key hb ha (fun n v => (h n v).symm) x hx, e⟩⟩
  have hlen : a.length = b.length := by simpa using congrArg List.length hm
  apply List.ext_getElem hlen
  intro i h1 h2
  refine nf_one hb.asc (key ha hb h _ (List.getElem_mem h1)) (List.getElem_mem h2) ?_
  have := congrArg (fun l => l[i]?) hm
  simpa [List.getElem?_map, List.getElem?_eq_getElem h1, List.getElem?_eq_getElem h2] using this
theorem nf_id {l : List At} (h : NF l) : nf l = l := nf_ext (nf_NF l) h fun n v => hs_nf.trans (hl_low h.low)
theorem nf_nf (l : List At) : nf (nf l) = nf l := nf_id (nf_NF l)
theorem vals_nf (l : List At) (n : ByteArray) : vals (nf l) n = vals l n := asc_ext (vals_asc _ _) (vals_asc _ _) fun v => by rw [vals_mem, vals_mem, hl_nf]
theorem nf_get {l : List At} {a : At} (h : NF l) (ha : a ∈ l) : vals l a.1 = a.2 := asc_ext (vals_asc _ _) (h.vasc a ha) fun v => by
  rw [vals_mem, hl_low h.low]
  exact ⟨fun ⟨b, hb, e, hv⟩ => by rw [nf_one h.asc ha hb e.symm]; exact hv, fun hv => ⟨a, ha, rfl, hv⟩⟩


end Go.Proofs.YtclfjdnemafmeaaGreatDoor
end

section
/-
  What the proofs of this seat share (its statements list no variable: rows, no cards): arguments that are only read, slices of strings that came in.
-/
set_option maxRecDepth 100000
set_option linter.unusedVariables false
set_option linter.unusedSimpArgs false
set_option linter.unnecessarySimpa false
namespace Go.Proofs.YtclfjdnemafmeaaGreatDoor
open Go.ChangeShapes Go.WideShapes Go.ChangeAt Go.RowKit



theorem own : ownKnob Tryz.prog.godebug = none := by kernel_rfl

theorem laidOut : laidOutB Tryz.prog = true := by kernel_rfl

/-- arguments that are only read read behind the call as before it -/
theorem trodAll_below {H : Type} {enc : TypeId × Value → H} {W W' : World} (hb : Below W.heap.size W W') : ∀ (ts : List TypeId) (vs : List Value) (ds : List (DataW H)) (ps : List MemPlace),
    (∀ t ∈ ts, Tryz.prog.readableRec t = true ∧ t < Tryz.prog.types.size) → DataW.TrodAll enc Tryz.prog W 0 (fun _ => true) true ts vs ds ps → (∀ x ∈ ps, x.block < W.heap.size) →
    DataW.TrodAll enc Tryz.prog W' 0 (fun b => decide (b < W.heap.size)) true ts vs ds ps
  | [], vs, ds, ps, _, h, _ => by
    obtain ⟨rfl, rfl, rfl⟩ := trodAll_nil h
    exact trodAll_mk0
  | t :: ts, vs, ds, ps, hr, h, hl => by
    obtain ⟨v, vs', d, ds', p, q, rfl, rfl, rfl, h0, r0⟩ := trodAll_cons h
    exact trodAll_cons_mk (Below.trod laidOut (hr t (by simp)).1 (hr t (by simp)).2 h0 hb (fun x hx => hl x (by simp [hx])))
      (trodAll_below hb ts vs' ds' q (fun t ht => hr t (by simp [ht])) r0 (fun x hx => hl x (by simp [hx])))

/-- a slice of strings that came in -/
def StrsAt (w : World) (ao : Option Addr) (n cap : Nat) (ps : List ByteArray) : Prop :=
  ps.length = n ∧ n ≤ cap ∧ cap ≤ maxLen ∧ (0 < n → ∃ b off, ao = some ⟨b, off, none⟩ ∧ IsStrs w b off ps)
theorem StrsAt.below {w w' : World} {ao : Option Addr} {n cap : Nat} {ps : List ByteArray} (h : StrsAt w ao n cap ps) (hb : Below w.heap.size w w') : StrsAt w' ao n cap ps :=
  ⟨h.1, h.2.1, h.2.2.1, fun hn => by
    obtain ⟨b, off, e, hi⟩ := h.2.2.2 hn
    exact ⟨b, off, e, hi.below hb hi.1⟩⟩
theorem cells_string : Tryz.prog.cellsOf 9 = 1 := by kernel_rfl
set_option maxRecDepth 100000 in
theorem open_strs {H : Type} {enc : TypeId × Value → H} {W : World} {base : Nat} {v : Value} {d : DataW H} {p : List MemPlace} (hval : Value.okWide Tryz.prog W .any base 36 v)
    (h0 : DataW.Trod enc Tryz.prog W 0 (fun _ => true) true 36 v d p) : ∃ ao n cap ps, v = .slice ao n cap ∧ StrsAt W ao n cap ps := by
  obtain ⟨a0, len, cap, rfl⟩ := okWide_slice Tryz.underlying36 hval
  obtain ⟨fuel, hf⟩ := h0
  rcases open_strings Tryz.underlying36 Tryz.underlying9 cells_string hf with ⟨hcs, hx⟩ | ⟨a, len', cap', ss, hcs, _, hl, hm, hz, hx, hcell, hws⟩
  · simp [Value.cells] at hcs
    obtain ⟨rfl, rfl, rfl⟩ := hcs
    exact ⟨none, 0, 0, [], rfl, rfl, Nat.le_refl _, by unfold maxLen; omega, fun h => absurd h (by omega)⟩
  · simp [Value.cells] at hcs
    obtain ⟨rfl, rfl, rfl⟩ := hcs
    simp only [if_true] at hz
    refine ⟨_, len, cap, ss.take len, rfl, by rw [List.length_take]; omega, hl, hm, fun hn => ?_⟩
    obtain ⟨b, off, spot⟩ := a
    have hspot : spot = none := by simpa [Addr.add] using World.cell?_spot (hcell 0 (by omega))
    subst hspot
    have h1 := hcell 0 (by omega)
    rw [add_plain] at h1
    refine ⟨b, off, rfl, World.block_lt_of_cell? W _ h1, fun j hj => ?_⟩
    rw [List.length_take] at hj
    rw [← add_plain, hcell j (by omega)]
    unfold partAt
    rw [List.getD_eq_getElem?_getD, List.getD_eq_getElem?_getD, List.getElem?_take, if_pos (by omega)]


end Go.Proofs.YtclfjdnemafmeaaGreatDoor
end

section
/-
  Slices of strings that the call has made or that came in, and the contract of the specification's Same. No condition beyond sizes.
-/
set_option maxRecDepth 100000
set_option linter.unusedVariables false
set_option linter.unusedSimpArgs false
set_option linter.unnecessarySimpa false
namespace Go.Proofs.YtclfjdnemafmeaaGreatDoor
open Go.RowKit Go.PlainAid



/-- the cells of strings -/
def scells (l : List ByteArray) : List Value := l.map Value.string
theorem scells_snoc (l : List ByteArray) (p : ByteArray) : scells (l ++ [p]) = scells l ++ [.string p] := by simp [scells]
theorem info_string : (Tryz.prog.info? 9).map (fun i => (i.zero, i.size, i.bytes)) = some (some (.string ⟨#[]⟩), 1, 16) := by kernel_rfl
/-- 'l = append(l, s)' where l is the call's own -/
theorem push_str {ops : Array Oper} {rest : List Oper} {o : Oper} {a : Act} {Q : Exit → Act → World → Prop} (wr : World) {base : Nat} {v : Value} {n : Nat} {xs : List Value} (hown : wr.ownsRow base 9 1 v n xs) (s x : Operand)
    (p : ByteArray) (hgd : o.guard = none)
    (ho : o.op = .call { callee := .builtin .append, args := #[s, x], argTypes := #[36, 36] })
    (hs : a.eval s = v) (hx : a.eval x = .slice (some ⟨wr.heap.size, 0, none⟩) 1 1) (hn : n + 1 ≤ 1000000000) (hbase : base ≤ wr.heap.size)
    (h : ∀ v' w', w'.ownsRow base 9 1 v' (n + 1) (xs ++ [.string p]) → Below base wr w' → wpList Tryz.prog ops Q rest (a.put o.dst v') w') :
    wpList Tryz.prog ops Q (o :: rest) a (wr.alloc (.cells #[.string p] 9)) := by
  obtain ⟨i0, hi, hz0, hz1, hz2⟩ := info_parts info_string
  refine wpList_append_own _ hgd s x 36 ho base 9 i0 (.string ⟨#[]⟩) 1 16 Tryz.underlying36 hi hz0 hz1 hz2 rfl (by decide) v n xs hs (hown.alloc _) ⟨wr.heap.size, 0, none⟩ 1 1 [.string p] hx rfl
    (cell_one_new _ _ _) (by intro u hu; simp at hu; subst hu; rfl) (by unfold maxLen; omega) (by omega) (by simp; omega) ?_
  intro v' w' h1 h2 _
  refine h v' w' h1 ?_
  exact ((Below.refl base wr).alloc hbase _).grown h2 (by simp; omega) (fun k hk => (hown.lt k hk).1)
theorem own_below {w w' : World} {base : Nat} {e : TypeId} {size : Nat} {v : Value} {n : Nat} {xs : List Value} (h : w.ownsRow base e size v n xs) (hb : Below w.heap.size w w') : w'.ownsRow base e size v n xs :=
  h.kept (row := none) ⟨hb.os, hb.tape, hb.output, hb.size, fun k hk _ => hb.block k hk⟩ (by
    cases h : v.ownBlock
    · exact .inl rfl
    · exact .inr (by simp))
theorem strs_own {w : World} {base n : Nat} {v : Value} {l : List ByteArray} (h : w.ownsRow base 9 1 v n (scells l)) (hn : l.length = n) : ∃ ao cap, v = .slice ao n cap ∧ StrsAt w ao n cap l := by
  have h0 := h
  rcases h.2 with ⟨rfl, rfl⟩ | ⟨g, cap, cur, rfl, hb, hg, hc, hm, hcs, ht⟩
  · exact ⟨none, 0, rfl, hn, Nat.le_refl _, by unfold maxLen; omega, fun h => absurd h (Nat.lt_irrefl _)⟩
  · refine ⟨_, cap, rfl, hn, hc, hm, fun h1 => ⟨g, 0, rfl, ?_, fun j hj => ?_⟩⟩
    · rcases Nat.lt_or_ge g w.heap.size with h' | h'
      · exact h'
      · simp [Array.getElem?_eq_none h'] at hg
    · have := h0.cells (g := g) rfl j (.string (partAt l j)) (by
        unfold scells partAt
        rw [List.getElem?_map, List.getD_eq_getElem?_getD, List.getElem?_eq_getElem hj]; rfl)
      rw [Go.WideShapes.add_plain] at this
      exact this
/-- what lies at or above a block -/
def FreshA (B : Nat) (bo : Option Addr) : Prop := ∀ b off, bo = some ⟨b, off, none⟩ → B ≤ b
theorem strs_fresh {w : World} {base n cap : Nat} {ao : Option Addr} {xs : List Value} (h : w.ownsRow base 9 1 (.slice ao n cap) n xs) : FreshA base ao := by
  intro b off e
  subst e
  exact (h.lt b rfl).1
theorem StrsAt.keep {w w' : World} {ao : Option Addr} {n cap : Nat} {ps : List ByteArray} (h : StrsAt w ao n cap ps) (hs : w.heap.size ≤ w'.heap.size) (hk : ∀ b off, ao = some ⟨b, off, none⟩ → b < w.heap.size → w'.heap[b]? = w.heap[b]?) : StrsAt w' ao n cap ps :=
  ⟨h.1, h.2.1, h.2.2.1, fun hn => by
    obtain ⟨b, off, e, hi⟩ := h.2.2.2 hn
    refine ⟨b, off, e, Nat.lt_of_lt_of_le hi.1 hs, fun j hj => ?_⟩
    rw [← hi.2 j hj]
    exact World.cell?_of_block (a := ⟨b, off + j, none⟩) (hk b off e hi.1)⟩
/-- the same append, and where the row lies behind it -/
theorem push_lies {ops : Array Oper} {rest : List Oper} {o : Oper} {a : Act} {Q : Exit → Act → World → Prop} (wr : World) {base : Nat} {v : Value} {n : Nat} {xs : List Value} (hown : wr.ownsRow base 9 1 v n xs) (s x : Operand)
    (p : ByteArray) (hgd : o.guard = none)
    (ho : o.op = .call { callee := .builtin .append, args := #[s, x], argTypes := #[36, 36] })
    (hs : a.eval s = v) (hx : a.eval x = .slice (some ⟨wr.heap.size, 0, none⟩) 1 1) (hn : n + 1 ≤ 1000000000) (hbase : base ≤ wr.heap.size)
    (h : ∀ g cap w', w'.ownsRow base 9 1 (.slice (some ⟨g, 0, none⟩) (n + 1) cap) (n + 1) (xs ++ [.string p]) → Below base wr w' → Hid (∀ k, k < wr.heap.size → v.ownBlock ≠ some k → w'.heap[k]? = wr.heap[k]?) →
      wpList Tryz.prog ops Q rest (a.put o.dst (.slice (some ⟨g, 0, none⟩) (n + 1) cap)) w') :
    wpList Tryz.prog ops Q (o :: rest) a (wr.alloc (.cells #[.string p] 9)) := by
  obtain ⟨i0, hi, hz0, hz1, hz2⟩ := info_parts info_string
  refine wpList_append_lies _ hgd s x 36 ho base 9 i0 (.string ⟨#[]⟩) 1 16 Tryz.underlying36 hi hz0 hz1 hz2 rfl (by decide) v n xs hs (hown.alloc _) ⟨wr.heap.size, 0, none⟩ 1 1 [.string p] hx rfl
    (cell_one_new _ _ _) (by intro u hu; simp at hu; subst hu; rfl) (by decide) (by unfold maxLen; omega) (by omega) (by simp; omega) (wr.heap.size + 1) (by simp) ?_
  intro g cap w' h1 h2 _ _
  refine h g cap w' h1 ?_ (Lib.hid fun k hk hne => ?_)
  · exact ((Below.refl base wr).alloc hbase _).grown h2 (by simp; omega) (fun k hk => (hown.lt k hk).1)
  · rw [h2.block k (by simp; omega) (fun e => hne e.symm)]
    exact Below.heap_alloc wr _ k hk
/-- an element of a slice of strings: its cell in every later world -/
theorem StrsAt.at {w : World} {ao : Option Addr} {n cap : Nat} {ps : List ByteArray} (h : StrsAt w ao n cap ps) (hn : 0 < n) : ∃ b off, ao = some ⟨b, off, none⟩ ∧ b < w.heap.size ∧
    ∀ w', Below w.heap.size w w' → ∀ j, j < n → w'.cell? ⟨b, off + j, none⟩ = some (.string (partAt ps j)) := by
  obtain ⟨b, off, e, hi⟩ := h.2.2.2 hn
  exact ⟨b, off, e, hi.1, fun w' hb j hj => (hi.below hb hi.1).2 j (by rw [h.1]; exact hj)⟩
theorem StrsAt.drop {w : World} {b off n cap : Nat} {p : ByteArray} {r : List ByteArray} (h : StrsAt w (some ⟨b, off, none⟩) n cap (p :: r)) : StrsAt w (some ⟨b, off + 1, none⟩) (n - 1) (cap - 1) r := by
  obtain ⟨h1, h2, h3, h4⟩ := h
  have hl : r.length + 1 = n := h1
  refine ⟨by omega, by omega, by omega, fun hn => ?_⟩
  obtain ⟨b', off', e, hi⟩ := h4 (by omega)
  cases e
  refine ⟨b, off + 1, rfl, hi.1, fun j hj => ?_⟩
  have := hi.2 (j + 1) (by simpa using hj)
  rw [show off + 1 + j = off + (j + 1) by omega]
  exact this
theorem strs_ext {ps qs : List ByteArray} (h : ps.length = qs.length) (k : ∀ j, j < ps.length → partAt ps j = partAt qs j) : ps = qs := by
  apply List.ext_getElem h
  intro i h1 h2
  have := k i h1
  unfold partAt at this
  rwa [List.getD_eq_getElem?_getD, List.getD_eq_getElem?_getD, List.getElem?_eq_getElem h1, List.getElem?_eq_getElem h2] at this

end Go.Proofs.YtclfjdnemafmeaaGreatDoor
end

section
/-
  Contracts of the specification's has and Insert. Insert at an ascending list without doubles. No condition beyond sizes.
-/
set_option maxRecDepth 100000
set_option linter.unusedVariables false
set_option linter.unusedSimpArgs false
set_option linter.unnecessarySimpa false
namespace Go.Proofs.YtclfjdnemafmeaaGreatDoor
open Go.RowKit Go.PlainAid

theorem str_eq (a b : ByteArray) : (a.toList == b.toList) = decide (a = b) := by
  rw [Lib.toList_data, Lib.toList_data, Bool.eq_iff_iff, beq_iff_eq, decide_eq_true_eq]
  exact ⟨fun h => by rw [← Lib.mk_data a, ← Lib.mk_data b, h], fun h => by rw [h]⟩
theorem str_ne (a b : ByteArray) : (a.toList != b.toList) = decide (a ≠ b) := by
  rw [bne, str_eq]; by_cases h : a = b <;> simp [h]
theorem str_geq (t : TypeId) (a b : ByteArray) : binOp .geq t (.string a) (.string b) = pure (.bool !(Op.bytesLess a.toList b.toList)) := by simp [binOp, Op.stringOp]
theorem less_cmp : ∀ a b : List UInt8, Op.bytesLess a b = decide (Lib.compareBytes a b < 0)
  | [], [] => by simp [Op.bytesLess, Lib.compareBytes]
  | [], _ :: _ => by simp [Op.bytesLess, Lib.compareBytes]
  | _ :: _, [] => by simp [Op.bytesLess, Lib.compareBytes]
  | x :: a, y :: b => by
    unfold Op.bytesLess Lib.compareBytes
    rw [less_cmp a b]
    by_cases h : x < y
    · simp [h]
    · by_cases g : y < x
      · have hne : ¬ x = y := fun e => by subst e; exact h g
        simp [h, g, hne]
      · have he : x = y := by
          have h1 : ¬ x.toNat < y.toNat := fun k => h (UInt8.lt_iff_toNat_lt.2 k)
          have h2 : ¬ y.toNat < x.toNat := fun k => g (UInt8.lt_iff_toNat_lt.2 k)
          exact UInt8.toNat_inj.1 (by omega)
        simp [h, g, he]
theorem str_less (a b : ByteArray) : Op.bytesLess a.toList b.toList = decide (cmpS a b < 0) := by
  rw [less_cmp, Lib.toList_data, Lib.toList_data]; rfl

def memB (l : List ByteArray) (s : ByteArray) : Bool := l.any fun x => decide (x = s)
theorem memB_iff {l : List ByteArray} {s : ByteArray} : memB l s = true ↔ s ∈ l := by
  unfold memB
  rw [List.any_eq_true]
  exact ⟨fun ⟨x, h, e⟩ => by rw [← of_decide_eq_true e]; exact h, fun h => ⟨s, h, decide_eq_true rfl⟩⟩

set_option maxRecDepth 100000 in
set_option maxHeartbeats 2000000 in
theorem has_s (ao : Option Addr) (n cap : Nat) (ps : List ByteArray) (s : ByteArray) (w : World) (h : StrsAt w ao n cap ps) :
    Calls Tryz.prog 145 #[.slice ao n cap, .string s] w fun e w' => e = .returned (.bool (memB ps s)) ∧ w = w' := by
  obtain ⟨h1, h2, h3, h4⟩ := h
  subst h1
  unfold maxLen at h3
  have H4 := Lib.hid h4; clear h4
  go_enter Tryz.func145, Tryz.ntmps145
  go_wp2
  go_loop [5] (fun i => ∃ k : Nat, k ≤ ps.length ∧ i = .int .i64 k ∧ Hid (∀ j, j < k → partAt ps j ≠ s)) (fun i => ps.length - (intOf i).toNat)
  case atStart => exact ⟨0, Nat.zero_le _, rfl, Lib.hid (fun j hj => absurd hj (Nat.not_lt_zero _))⟩
  case round =>
    obtain ⟨k, hk, rfl, HA⟩ := hrel
    by_cases hlt : k < ps.length
    · obtain ⟨b, off, rfl, hs⟩ := H4.out (by omega)
      have hcell := hs.2 k hlt
      clear hs
      obtain ⟨p, hpe⟩ : ∃ p, p = partAt ps k := ⟨_, rfl⟩
      rw [← hpe] at hcell
      have HP := Lib.hid hpe; clear hpe
      have d1 : (k : Int) < (ps.length : Int) := by omega
      by_cases hps : p = s
      · have q1 : (p.toList == s.toList) = true := by rw [str_eq]; exact decide_eq_true hps
        have HE := Lib.hid (show memB ps s = true from memB_iff.2 (by
          rw [← hps, HP.out]; unfold partAt
          rw [List.getD_eq_getElem?_getD, List.getElem?_eq_getElem hlt]; exact List.getElem_mem hlt))
        clear hps
        go_wp2_with fail
        go_ret
        exact ⟨by rw [HE.out]; rfl, rfl⟩
      · have q1 : (p.toList == s.toList) = false := by rw [str_eq]; exact decide_eq_false hps
        have HN := Lib.hid hps
        clear hps
        go_wp2_with fail
        go_round
        case rel =>
          refine ⟨k + 1, by omega, by go_num, Lib.hid fun j hj => ?_⟩
          by_cases e : j = k
          · rw [e, ← HP.out]; exact HN.out
          · exact HA.out j (by omega)
        case measure => simp [intOf]; omega
    · have HE := Lib.hid (show memB ps s = false from Bool.eq_false_iff.2 fun hm0 => by
        obtain ⟨j, hj, e⟩ := List.getElem_of_mem (memB_iff.1 hm0)
        refine HA.out j (by omega) ?_
        unfold partAt
        rw [List.getD_eq_getElem?_getD, List.getElem?_eq_getElem hj]; exact e)
      go_wp2_with fail
      go_ret
      exact ⟨by rw [HE.out]; rfl, rfl⟩

/-! ### Insert -/
theorem insS_all {s : ByteArray} (r : List ByteArray) : ∀ (a : List ByteArray), (∀ x ∈ a, cmpS x s < 0) → insS (a ++ r) s = a ++ insS r s
  | [], _ => rfl
  | x :: a, h => by
    rw [List.cons_append]
    show (if cmpS x s < 0 then x :: insS (a ++ r) s else _) = _
    rw [if_pos (h x (List.mem_cons_self ..)), insS_all r a (fun y hy => h y (List.mem_cons_of_mem _ hy))]; rfl
theorem insS_done {s y : ByteArray} : ∀ (a : List ByteArray), (∃ x ∈ a, ¬ cmpS x s < 0) → insS (a ++ [y]) s = insS a s ++ [y]
  | [], h => by obtain ⟨x, hx, _⟩ := h; exact absurd hx List.not_mem_nil
  | x :: a, h => by
    rw [List.cons_append]
    show (if cmpS x s < 0 then x :: insS (a ++ [y]) s else if x = s then x :: (a ++ [y]) else s :: x :: (a ++ [y])) = (if cmpS x s < 0 then x :: insS a s else if x = s then x :: a else s :: x :: a) ++ [y]
    by_cases hx : cmpS x s < 0
    · rw [if_pos hx, if_pos hx, insS_done a]
      · rfl
      · obtain ⟨z, hz, hn⟩ := h
        rcases List.mem_cons.1 hz with k | k
        · exact absurd (k ▸ hx) hn
        · exact ⟨z, k, hn⟩
    · rw [if_neg hx, if_neg hx]
      by_cases e : x = s
      · rw [if_pos e, if_pos e]; rfl
      · rw [if_neg e, if_neg e]; rfl
theorem insS_one {s y : ByteArray} (h : ¬ cmpS y s < 0) : insS [y] s = if y = s then [s] else [s, y] := by
  show (if cmpS y s < 0 then _ else if y = s then [y] else [s, y]) = _
  rw [if_neg h]
  by_cases e : y = s
  · rw [if_pos e, if_pos e, e]
  · rw [if_neg e, if_neg e]
theorem take_snoc (l : List ByteArray) (k : Nat) (h : k < l.length) : l.take (k + 1) = l.take k ++ [partAt l k] := by
  unfold partAt
  rw [List.take_succ_eq_append_getElem h, List.getD_eq_getElem?_getD, List.getElem?_eq_getElem h]; rfl
theorem part_mem (l : List ByteArray) (k : Nat) (h : k < l.length) : partAt l k ∈ l := by
  unfold partAt
  rw [List.getD_eq_getElem?_getD, List.getElem?_eq_getElem h]; exact List.getElem_mem h
/-- what Insert has written behind k elements -/
def insAt (l : List ByteArray) (s : ByteArray) (k : Nat) (dn : Bool) (o : List ByteArray) : Prop :=
  (dn = false ∧ o = l.take k ∧ ∀ x ∈ l.take k, cmpS x s < 0) ∨ (dn = true ∧ o = insS (l.take k) s ∧ ∃ x ∈ l.take k, ¬ cmpS x s < 0)
theorem insAt_zero (l : List ByteArray) (s : ByteArray) : insAt l s 0 false [] := .inl ⟨rfl, by simp, by simp⟩
theorem insAt_len {l : List ByteArray} {s : ByteArray} {k : Nat} {o : List ByteArray} (h : insAt l s k false o) : o.length ≤ k := by
  rcases h with ⟨_, e, _⟩ | ⟨e, _⟩
  · rw [e, List.length_take]; omega
  · cases e
theorem insAt_low {l : List ByteArray} {s : ByteArray} {k : Nat} {o : List ByteArray} (h : insAt l s k false o) (hk : k < l.length) (hc : cmpS (partAt l k) s < 0) : insAt l s (k + 1) false (o ++ [partAt l k]) := by
  rcases h with ⟨_, e, ha⟩ | ⟨e, _⟩
  · refine .inl ⟨rfl, by rw [e, take_snoc l k hk], fun x hx => ?_⟩
    rw [take_snoc l k hk] at hx
    rcases List.mem_append.1 hx with j | j
    · exact ha x j
    · rw [List.mem_singleton.1 j]; exact hc
  · cases e
theorem insAt_same {l : List ByteArray} {s : ByteArray} {k : Nat} {o : List ByteArray} (h : insAt l s k false o) (hk : k < l.length) (hc : partAt l k = s) : insAt l s (k + 1) true (o ++ [s]) := by
  have hn : ¬ cmpS (partAt l k) s < 0 := by rw [hc]; exact cs_irrefl s
  rcases h with ⟨_, e, ha⟩ | ⟨e, _⟩
  · refine .inr ⟨rfl, ?_, partAt l k, by rw [take_snoc l k hk]; simp, hn⟩
    rw [take_snoc l k hk, insS_all _ _ ha, insS_one hn, if_pos hc, e]
  · cases e
theorem insAt_new {l : List ByteArray} {s : ByteArray} {k : Nat} {o : List ByteArray} (h : insAt l s k false o) (hk : k < l.length) (hn : ¬ cmpS (partAt l k) s < 0) (hc : ¬ partAt l k = s) : insAt l s (k + 1) true ((o ++ [s]) ++ [partAt l k]) := by
  rcases h with ⟨_, e, ha⟩ | ⟨e, _⟩
  · refine .inr ⟨rfl, ?_, partAt l k, by rw [take_snoc l k hk]; simp, hn⟩
    rw [take_snoc l k hk, insS_all _ _ ha, insS_one hn, if_neg hc, e]; simp
  · cases e
theorem insAt_more {l : List ByteArray} {s : ByteArray} {k : Nat} {o : List ByteArray} (ha : Asc l) (h : insAt l s k true o) (hk : k < l.length) : partAt l k ≠ s ∧ insAt l s (k + 1) true (o ++ [partAt l k]) := by
  rcases h with ⟨e, _⟩ | ⟨_, e, x, hx, hn⟩
  · cases e
  · have hlt : cmpS x (partAt l k) < 0 := by
      have h1 : Asc (l.take (k + 1)) := List.Pairwise.sublist (List.take_sublist _ _) ha
      rw [take_snoc l k hk] at h1
      exact (List.pairwise_append.1 h1).2.2 x hx _ (List.mem_singleton.2 rfl)
    refine ⟨fun e' => hn (e' ▸ hlt), .inr ⟨rfl, by rw [take_snoc l k hk, insS_done _ ⟨x, hx, hn⟩, e], x, by rw [take_snoc l k hk]; exact List.mem_append_left _ hx, hn⟩⟩
theorem insAt_end {l : List ByteArray} {s : ByteArray} {dn : Bool} {o : List ByteArray} (h : insAt l s l.length dn o) : insS l s = if dn then o else o ++ [s] := by
  rcases h with ⟨rfl, e, ha⟩ | ⟨rfl, e, _⟩
  · rw [List.take_length] at e ha
    have := insS_all (s := s) [] l ha
    rw [List.append_nil] at this
    rw [this, e]; rfl
  · rw [List.take_length] at e
    rw [← e]; rfl

set_option maxRecDepth 100000 in
set_option maxHeartbeats 4000000 in
theorem insert_s (ao : Option Addr) (n cap : Nat) (l : List ByteArray) (s : ByteArray) (w : World) (h : StrsAt w ao n cap l) (hn : n ≤ 1000000) (hA : Asc l) :
    Calls Tryz.prog 118 #[.slice ao n cap, .string s] w fun e w' => ∃ v, e = .returned v ∧ w'.ownsRow w.heap.size 9 1 v (insS l s).length (scells (insS l s)) ∧ Below w.heap.size w w' := by
  obtain ⟨h1, h2, h3, h4⟩ := h
  subst h1
  unfold maxLen at h3
  have H4 := Lib.hid h4; clear h4
  have HA := Lib.hid hA; clear hA
  go_enter Tryz.func118, Tryz.ntmps118
  go_wp2
  go_loopw [5, 6, 7] (fun v dn i wr => ∃ (k : Nat) (d : Bool) (o : List ByteArray), k ≤ l.length ∧ o.length ≤ k + 1 ∧ i = .int .i64 k ∧ dn = .bool d ∧ Hid (insAt l s k d o) ∧ wr.ownsRow w.heap.size 9 1 v o.length (scells o) ∧ Below w.heap.size w wr)
    (fun _ _ i _ => l.length - (intOf i).toNat)
  case atStart => exact ⟨0, false, [], Nat.zero_le _, Nat.zero_le _, rfl, rfl, Lib.hid (insAt_zero l s), World.ownsRow_nil _ _ _ _, Below.refl _ _⟩
  case round =>
    obtain ⟨k, d, o, hk, ho, rfl, rfl, HI, hown, hbl⟩ := hrel
    by_cases hlt : k < l.length
    · obtain ⟨b, off, rfl, hs⟩ := H4.out (by omega)
      have hcell := (hs.below hbl hs.1).2 k hlt
      have hblt := hs.1
      clear hs
      obtain ⟨p, hpe⟩ : ∃ p, partAt l k = p := ⟨_, rfl⟩
      have HIA := Lib.hid (fun h => insAt_low (l := l) (s := s) (k := k) (o := o) h hlt)
      have HIB := Lib.hid (fun h => insAt_same (l := l) (s := s) (k := k) (o := o) h hlt)
      have HIC := Lib.hid (fun h => insAt_new (l := l) (s := s) (k := k) (o := o) h hlt)
      have HID := Lib.hid (fun h => insAt_more (l := l) (s := s) (k := k) (o := o) HA.out h hlt)
      rw [hpe] at hcell HIA HIB HIC HID
      clear hpe
      have d1 : (k : Int) < (l.length : Int) := by omega
      have G := str_geq 9 p s
      rw [str_less] at G
      cases d
      · by_cases hc : cmpS p s < 0
        · rw [decide_eq_true hc] at G
          have q1 : (p.toList == s.toList) = false := by rw [str_eq]; exact decide_eq_false (cs_ne hc)
          have q2 : (p.toList != s.toList) = true := by unfold bne; rw [q1]; rfl
          have HX := Lib.hid (HIA.out HI.out hc)
          clear hc
          go_wp2_with (at_builtin; go_must (refine push_str _ hown (.tmp 34) (.tmp 39) p ?_ ?_ ?_ ?_ ?_ ?_ ?_; exact rfl; exact rfl; exact rfl; exact rfl; omega; exact hbl.size; intro v3 w3 hown3 hb3))
          go_roundw
          case rel => exact ⟨k + 1, false, o ++ [p], by omega, by simp; omega, by go_num, rfl, HX, by rw [scells_snoc, List.length_append]; exact hown3, hbl.trans hb3⟩
          case measure => simp [intOf]; omega
        · rw [decide_eq_false hc] at G
          by_cases he : p = s
          · have HX := Lib.hid (HIB.out HI.out he)
            clear hc HIA HIB HIC HID
            have q1 : (p.toList == s.toList) = true := by rw [str_eq]; exact decide_eq_true he
            have q2 : (p.toList != s.toList) = false := by unfold bne; rw [q1]; rfl
            clear he
            go_wp2_with (at_builtin; go_must (refine push_str _ hown (.tmp 24) (.tmp 26) s ?_ ?_ ?_ ?_ ?_ ?_ ?_; exact rfl; exact rfl; exact rfl; exact rfl; omega; exact hbl.size; intro v3 w3 hown3 hb3; have hcell3 := (hb3.cell (p := ⟨b, off + k, none⟩) (by have := hbl.size; omega)).trans hcell))
            go_roundw
            case rel => exact ⟨k + 1, true, o ++ [s], by omega, by simp; omega, by go_num, rfl, HX, by rw [scells_snoc, List.length_append]; exact hown3, hbl.trans hb3⟩
            case measure => simp [intOf]; omega
          · have q1 : (p.toList == s.toList) = false := by rw [str_eq]; exact decide_eq_false he
            have q2 : (p.toList != s.toList) = true := by unfold bne; rw [q1]; rfl
            have HX := Lib.hid (HIC.out HI.out hc he)
            have hok := insAt_len HI.out
            clear hc he
            have tok : True := trivial
            go_wp2_with (first
              | (at_builtin; have _t := tok; go_must (refine push_str _ hown (.tmp 24) (.tmp 26) s ?_ ?_ ?_ ?_ ?_ ?_ ?_; exact rfl; exact rfl; exact rfl; exact rfl; omega; exact hbl.size; intro v3 w3 hown3 hb3; clear tok; have hcell3 := (hb3.cell (p := ⟨b, off + k, none⟩) (by have := hbl.size; omega)).trans hcell))
              | (at_builtin; go_must (refine push_str _ hown3 (.tmp 34) (.tmp 39) p ?_ ?_ ?_ ?_ ?_ ?_ ?_; exact rfl; exact rfl; exact rfl; exact rfl; omega; exact (hbl.trans hb3).size; intro v4 w4 hown4 hb4)))
            go_roundw
            case rel => exact ⟨k + 1, true, (o ++ [s]) ++ [p], by omega, by simp; omega, by go_num, rfl, HX, by rw [scells_snoc, scells_snoc, List.length_append, List.length_append]; exact hown4, (hbl.trans hb3).trans hb4⟩
            case measure => simp [intOf]; omega
      · obtain ⟨hne, hx⟩ := HID.out HI.out
        have HX := Lib.hid hx
        have q1 : (p.toList == s.toList) = false := by rw [str_eq]; exact decide_eq_false hne
        have q2 : (p.toList != s.toList) = true := by unfold bne; rw [q1]; rfl
        clear hne hx G
        go_wp2_with (at_builtin; go_must (refine push_str _ hown (.tmp 34) (.tmp 39) p ?_ ?_ ?_ ?_ ?_ ?_ ?_; exact rfl; exact rfl; exact rfl; exact rfl; omega; exact hbl.size; intro v3 w3 hown3 hb3))
        go_roundw
        case rel => exact ⟨k + 1, true, o ++ [p], by omega, by simp; omega, by go_num, rfl, HX, by rw [scells_snoc, List.length_append]; exact hown3, hbl.trans hb3⟩
        case measure => simp [intOf]; omega
    · have hkl : k = l.length := by omega
      subst hkl
      have HE := Lib.hid (insAt_end HI.out)
      cases d
      · go_wp2_with (at_builtin; go_must (refine push_str _ hown (.tmp 43) (.tmp 45) s ?_ ?_ ?_ ?_ ?_ ?_ ?_; exact rfl; exact rfl; exact rfl; exact rfl; omega; exact hbl.size; intro v3 w3 hown3 hb3))
        go_ret
        have he : insS l s = o ++ [s] := HE.out
        exact ⟨v3, rfl, by rw [he, scells_snoc, List.length_append]; exact hown3, hbl.trans hb3⟩
      · go_wp2_with fail
        go_ret
        have he : insS l s = o := HE.out
        exact ⟨_, rfl, by rw [he]; exact hown, hbl⟩

end Go.Proofs.YtclfjdnemafmeaaGreatDoor
end

section
/-
  Attributes in memory: a slice of attributes that came in, read out of memory. No condition.
-/
set_option maxRecDepth 100000
set_option linter.unusedVariables false
set_option linter.unusedSimpArgs false
set_option linter.unnecessarySimpa false
namespace Go.Proofs.YtclfjdnemafmeaaGreatDoor
open Go.ChangeShapes Go.WideShapes Go.ChangeAt Go.RowKit

set_option maxRecDepth 100000 in
theorem trod_strs {H : Type} {enc : TypeId × Value → H} {W : World} {v : Value} {x : DataW H × List MemPlace} {fuel : Nat}
    (hf : DataW.trod enc Tryz.prog W 0 (fun _ => true) true fuel 36 [v] = some x) : ∃ ao n cap ps, v = .slice ao n cap ∧ StrsAt W ao n cap ps := by
  rcases open_strings Tryz.underlying36 Tryz.underlying9 cells_string hf with ⟨hcs, hx⟩ | ⟨a, len, cap, ss, hcs, _, hl, hm, hz, hx, hcell, hws⟩
  · injection hcs with h1 _
    exact ⟨none, 0, 0, [], h1, rfl, Nat.le_refl _, by unfold maxLen; omega, fun h => absurd h (by omega)⟩
  · injection hcs with h1 _
    simp only [if_true] at hz
    refine ⟨_, len, cap, ss.take len, h1, by rw [List.length_take]; omega, hl, hm, fun hn => ?_⟩
    obtain ⟨b, off, spot⟩ := a
    have hspot : spot = none := by simpa [Addr.add] using World.cell?_spot (hcell 0 (by omega))
    subst hspot
    have h1 := hcell 0 (by omega)
    rw [add_plain] at h1
    refine ⟨b, off, rfl, World.block_lt_of_cell? W _ h1, fun j hj => ?_⟩
    rw [List.length_take] at hj
    rw [← add_plain, hcell j (by omega)]
    unfold partAt
    rw [List.getD_eq_getElem?_getD, List.getD_eq_getElem?_getD, List.getElem?_take, if_pos (by omega)]
def atD (l : List At) (j : Nat) : At := l.getD j (⟨#[]⟩, [])
theorem at_get (l : List At) (j : Nat) (h : j < l.length) : atD l j = l[j] := by
  unfold atD; rw [List.getD_eq_getElem?_getD, List.getElem?_eq_getElem h]; rfl
theorem at_mem (l : List At) (j : Nat) (h : j < l.length) : atD l j ∈ l := by rw [at_get l j h]; exact List.getElem_mem h
theorem at_take (l : List At) (k : Nat) (h : k < l.length) : l.take (k + 1) = l.take k ++ [atD l k] := by
  rw [at_get l k h]; exact List.take_succ_eq_append_getElem h
/-- an attribute in memory: its name and its values -/
def AttAt (w : World) (b off : Nat) (a : At) : Prop :=
  w.cell? ⟨b, off, none⟩ = some (.string a.1) ∧ ∃ vo vn vc, w.cell? ⟨b, off + 1, none⟩ = some (.slice vo vn vc) ∧ StrsAt w vo vn vc a.2
theorem AttAt.below {w w' : World} {b off : Nat} {a : At} (h : AttAt w b off a) (hb : Below w.heap.size w w') : AttAt w' b off a := by
  obtain ⟨h0, vo, vn, vc, h1, h2⟩ := h
  exact ⟨cell_later hb h0, vo, vn, vc, cell_later hb h1, h2.below hb⟩
/-- a slice of attributes in memory -/
def AttrsAt (w : World) (ao : Option Addr) (n cap : Nat) (l : List At) : Prop :=
  l.length = n ∧ n ≤ cap ∧ cap ≤ maxLen ∧ (0 < n → ∃ b off, ao = some ⟨b, off, none⟩ ∧ b < w.heap.size ∧ ∀ j, j < n → AttAt w b (off + j * 2) (atD l j))
theorem AttrsAt.below {w w' : World} {ao : Option Addr} {n cap : Nat} {l : List At} (h : AttrsAt w ao n cap l) (hb : Below w.heap.size w w') : AttrsAt w' ao n cap l :=
  ⟨h.1, h.2.1, h.2.2.1, fun hn => by
    obtain ⟨b, off, e, hi, ha⟩ := h.2.2.2 hn
    exact ⟨b, off, e, Nat.lt_of_lt_of_le hi hb.size, fun j hj => (ha j hj).below hb⟩⟩
theorem cells_attr : Tryz.prog.cellsOf 64 = 2 := by kernel_rfl
theorem choose_attrs {w : World} {b off len : Nat} (h : ∀ i, i < len → ∃ a : At, AttAt w b (off + i * 2) a) : ∃ l : List At, l.length = len ∧ ∀ i, i < len → AttAt w b (off + i * 2) (atD l i) := by
  induction len with
  | zero => exact ⟨[], rfl, fun i hi => absurd hi (Nat.not_lt_zero _)⟩
  | succ n ih =>
    obtain ⟨l, hl, hp⟩ := ih (fun i hi => h i (by omega))
    obtain ⟨a, ha⟩ := h n (by omega)
    refine ⟨l ++ [a], by simp [hl], fun i hi => ?_⟩
    by_cases e : i = n
    · subst e
      have e2 : atD (l ++ [a]) i = a := by
        unfold atD
        rw [List.getD_eq_getElem?_getD, List.getElem?_append_right (by omega), hl]; simp
      rw [e2]; exact ha
    · have e2 : atD (l ++ [a]) i = atD l i := by
        unfold atD
        rw [List.getD_eq_getElem?_getD, List.getD_eq_getElem?_getD, List.getElem?_append_left (by omega)]
      rw [e2]; exact hp i (by omega)
set_option maxRecDepth 100000 in
theorem open_attrs {H : Type} {enc : TypeId × Value → H} {W : World} {base : Nat} {v : Value} {d : DataW H} {p : List MemPlace} (hval : Value.okWide Tryz.prog W .any base 46 v)
    (h0 : DataW.Trod enc Tryz.prog W 0 (fun _ => true) true 46 v d p) : ∃ ao n cap l, v = .slice ao n cap ∧ AttrsAt W ao n cap l := by
  obtain ⟨a0, len, cap, rfl⟩ := okWide_slice Tryz.underlying46 hval
  obtain ⟨fuel, hf⟩ := h0
  rcases Go.Deep.open_slice_pairs Tryz.underlying46 Tryz.underlying64 cells_attr rfl rfl (by kernel_rfl) (by kernel_rfl) hf with ⟨hcs, hx⟩ | ⟨a, len', cap', m, n, V0, V1, D0, D1, P0, P1, hcs, _, hl, hm, hmm, hx, hcell⟩
  · simp [Value.cells] at hcs
    obtain ⟨rfl, rfl, rfl⟩ := hcs
    exact ⟨none, 0, 0, [], rfl, rfl, Nat.le_refl _, by unfold maxLen; omega, fun h => absurd h (by omega)⟩
  · simp [Value.cells] at hcs
    obtain ⟨rfl, rfl, rfl⟩ := hcs
    simp only [if_true] at hmm
    rw [hmm] at hcell
    by_cases hn : 0 < len
    · obtain ⟨b, off, spot⟩ := a
      have h1 := (hcell 0 (by omega)).1
      have hspot : spot = none := by simpa [Addr.add] using World.cell?_spot h1
      subst hspot
      have hb : b < W.heap.size := by
        rw [add_plain] at h1
        exact World.block_lt_of_cell? W _ h1
      obtain ⟨l, hpl, hps⟩ := choose_attrs (w := W) (b := b) (off := off) (len := len) (fun i hi => by
        obtain ⟨c0, c1, t0, t1⟩ := hcell i (by omega)
        rw [add_plain] at c0 c1
        obtain ⟨s0, e0, _⟩ := DataW.trod_string Tryz.underlying9 t0
        simp only [List.cons.injEq, and_true] at e0
        obtain ⟨aj, nj, cj, ps, e1, hs⟩ := trod_strs t1
        rw [e0] at c0
        rw [e1, ← Nat.add_assoc] at c1
        exact ⟨(s0, ps), c0, aj, nj, cj, c1, hs⟩)
      exact ⟨_, len, cap, l, rfl, hpl, hl, hm, fun _ => ⟨b, off, rfl, hb, hps⟩⟩
    · exact ⟨_, len, cap, [], rfl, by simp; omega, hl, hm, fun h => absurd h hn⟩


end Go.Proofs.YtclfjdnemafmeaaGreatDoor
end

section
/-
  Contracts of the specification's twice and checkValues. Condition: strings of at most 1000000 bytes.
-/
set_option maxRecDepth 100000
set_option linter.unusedVariables false
set_option linter.unusedSimpArgs false
set_option linter.unnecessarySimpa false
namespace Go.Proofs.YtclfjdnemafmeaaGreatDoor
open Go.RowKit Go.PlainAid

/-- names and values are short -/
def SmallS (l : List ByteArray) : Prop := ∀ v ∈ l, v.size ≤ 1000000
def SmallA (l : List At) : Prop := ∀ a ∈ l, a.1.size ≤ 1000000 ∧ SmallS a.2
theorem two_step {w w1 w2 : World} {A B : Addr} {x y : Value} (h : w1.cell? A = some x ∧ w1.cell? B = some y ∧ Hid (Below w.heap.size w w1)) (hb : Below w1.heap.size w1 w2) :
    w2.cell? A = some x ∧ w2.cell? B = some y ∧ Hid (Below w.heap.size w w2) :=
  ⟨cell_later hb h.1, cell_later hb h.2.1, Lib.hid (h.2.2.out.trans (hb.mono h.2.2.out.size))⟩
/-- an attribute before number i has the same name -/
def twiceB (l : List At) (i : Nat) : Bool := (l.take i).any fun a => decide (lowS a.1 = lowS (atD l i).1)
theorem twice_true {l : List At} {i k : Nat} (hi : i < l.length) (hk : k < i) (h : lowS (atD l k).1 = lowS (atD l i).1) : twiceB l i = true := by
  unfold twiceB
  rw [List.any_eq_true]
  refine ⟨atD l k, ?_, decide_eq_true h⟩
  rw [at_get l k (by omega)]
  exact List.mem_take_iff_getElem.2 ⟨k, by omega, rfl⟩
theorem twice_false {l : List At} {i : Nat} (hi : i < l.length) (h : ∀ k, k < i → lowS (atD l k).1 ≠ lowS (atD l i).1) : twiceB l i = false := by
  rw [Bool.eq_false_iff]
  intro e
  unfold twiceB at e
  rw [List.any_eq_true] at e
  obtain ⟨a, ha, e⟩ := e
  obtain ⟨k, hk, rfl⟩ := List.mem_take_iff_getElem.1 ha
  refine h k (by omega) ?_
  rw [at_get l k (by omega)]
  exact of_decide_eq_true e

set_option maxRecDepth 100000 in
set_option maxHeartbeats 4000000 in
theorem twice_s (ao : Option Addr) (n cap i : Nat) (l : List At) (w : World) (h : AttrsAt w ao n cap l) (hi : i < n) (hS : SmallA l) :
    Calls Tryz.prog 107 #[.slice ao n cap, .int .i64 i] w fun e w' => e = .returned (.bool (twiceB l i)) ∧ Below w.heap.size w w' := by
  obtain ⟨h1, h2, h3, h4⟩ := h
  subst h1
  unfold maxLen at h3
  obtain ⟨b, off, rfl, hblt, ha⟩ := h4 (by omega)
  have HA := Lib.hid (fun j (hj : j < l.length) => (ha j hj).1)
  obtain ⟨q, hq⟩ : ∃ q, (atD l i).1 = q := ⟨_, rfl⟩
  have hqs : q.size ≤ 1000000 := by rw [← hq]; exact (hS _ (at_mem l i hi)).1
  have hci := HA.out i hi
  rw [hq] at hci
  have HS := Lib.hid hS
  have HT := Lib.hid (fun k => twice_true (l := l) (i := i) (k := k) hi)
  have HF := Lib.hid (twice_false (l := l) (i := i) hi)
  rw [hq] at HT HF
  clear hq ha hS
  obtain ⟨u, hu⟩ : ∃ u, lowS q = u := ⟨_, rfl⟩
  rw [hu] at HT HF
  have HU := Lib.hid hu
  clear hu
  have e0 : (i : Int) < (l.length : Int) := by omega
  go_enter Tryz.func107, Tryz.ntmps107
  go_wp2
  go_loopw [5] (fun j wr => ∃ k : Nat, k ≤ i ∧ j = .int .i64 k ∧ Hid (∀ j, j < k → lowS (atD l j).1 ≠ u) ∧ Below w.heap.size w wr) (fun j _ => i - (intOf j).toNat)
  case atStart => exact ⟨0, Nat.zero_le _, rfl, Lib.hid (fun j hj => absurd hj (Nat.not_lt_zero _)), Below.refl _ _⟩
  case round =>
    obtain ⟨k, hk, rfl, HN, hbl⟩ := hrel
    by_cases hlt : k < i
    · have hck0 := HA.out k (by omega)
      obtain ⟨p, hp⟩ : ∃ p, (atD l k).1 = p := ⟨_, rfl⟩
      have hps : p.size ≤ 1000000 := by rw [← hp]; exact (HS.out _ (at_mem l k (by omega))).1
      rw [hp] at hck0
      have hck := (hbl.cell (p := ⟨b, off + k * 2, none⟩) hblt).trans hck0
      have hci' := (hbl.cell (p := ⟨b, off + i * 2, none⟩) hblt).trans hci
      have HT1 := Lib.hid (HT.out k hlt)
      rw [hp] at HT1
      have HP := Lib.hid hp
      clear hp hck0 hci
      obtain ⟨t, ht⟩ : ∃ t, lowS p = t := ⟨_, rfl⟩
      rw [ht] at HT1
      have HTT := Lib.hid ht
      have HB : Hid (Below w.heap.size w wr.drew) := Lib.hid hbl.drew
      have d1 : (k : Int) < (i : Int) := by omega
      have d2 : (k : Int) < (l.length : Int) := by omega
      clear ht hbl
      by_cases htu : t = u
      · have q1 : (t.toList == u.toList) = true := by rw [str_eq]; exact decide_eq_true htu
        have HE := Lib.hid (HT1.out htu)
        clear htu
        go_wp2_with fail
        go_region_held3 (fun w' => w'.cell? ⟨b, off + k * 2, none⟩ = some (.string p) ∧ w'.cell? ⟨b, off + i * 2, none⟩ = some (.string q) ∧ Hid (Below w.heap.size w w'))
          (first | exact ⟨hck, hci', HB⟩ | exact two_step (by assumption) hb | go_keep)
          (first
            | (go_at_call 80; with_reducible refine (rLower_s p _ (by omega)).mono ?_; rintro e w' ⟨rfl, hb⟩; rw [HTT.out])
            | (go_at_call 80; with_reducible refine (rLower_s q _ (by omega)).mono ?_; rintro e w' ⟨rfl, hb⟩; rw [HU.out]))
        all_goals (go_wp2; go_ret; exact ⟨by rw [HE.out]; rfl, (show Hid (Below w.heap.size w _) by first | assumption | exact And.right (And.right (by assumption))).out⟩)
      · have q1 : (t.toList == u.toList) = false := by rw [str_eq]; exact decide_eq_false htu
        have HE := Lib.hid htu
        clear htu
        go_wp2_with fail
        go_region_held3 (fun w' => w'.cell? ⟨b, off + k * 2, none⟩ = some (.string p) ∧ w'.cell? ⟨b, off + i * 2, none⟩ = some (.string q) ∧ Hid (Below w.heap.size w w'))
          (first | exact ⟨hck, hci', HB⟩ | exact two_step (by assumption) hb | go_keep)
          (first
            | (go_at_call 80; with_reducible refine (rLower_s p _ (by omega)).mono ?_; rintro e w' ⟨rfl, hb⟩; rw [HTT.out])
            | (go_at_call 80; with_reducible refine (rLower_s q _ (by omega)).mono ?_; rintro e w' ⟨rfl, hb⟩; rw [HU.out]))
        go_wp2
        go_roundw
        case rel =>
          refine ⟨k + 1, by omega, by go_num, Lib.hid fun j hj => ?_, (show Hid (Below w.heap.size w _) by first | assumption | exact And.right (And.right (by assumption))).out⟩
          by_cases e : j = k
          · rw [e, HP.out, HTT.out]; exact HE.out
          · exact HN.out j (by omega)
        case measure => simp [intOf]; omega
    · have hki : k = i := by omega
      subst hki
      have HE := Lib.hid (HF.out HN.out)
      go_wp2_with fail
      go_ret
      exact ⟨by rw [HE.out]; rfl, hbl⟩

end Go.Proofs.YtclfjdnemafmeaaGreatDoor
end

section
/-
  The first error of values, as a function. No condition.
-/
set_option maxRecDepth 100000
set_option linter.unusedVariables false
set_option linter.unusedSimpArgs false
set_option linter.unnecessarySimpa false
namespace Go.Proofs.YtclfjdnemafmeaaGreatDoor
open Go.RowKit Go.PlainAid

/-- the first of n errors that is one -/
def firstE (f : Nat → Int) : Nat → Int
  | 0 => 0
  | n + 1 => if firstE f n = 0 then f n else firstE f n
theorem firstE_zero {f : Nat → Int} : ∀ {n : Nat}, (∀ j, j < n → f j = 0) → firstE f n = 0
  | 0, _ => rfl
  | n + 1, h => by
    unfold firstE
    rw [if_pos (firstE_zero fun j hj => h j (by omega))]
    exact h n (by omega)
theorem firstE_hit {f : Nat → Int} {k : Nat} (h : ∀ j, j < k → f j = 0) (hk : f k ≠ 0) : ∀ {n : Nat}, k < n → firstE f n = f k
  | 0, hn => absurd hn (Nat.not_lt_zero _)
  | n + 1, hn => by
    unfold firstE
    by_cases e : k = n
    · subst e; rw [if_pos (firstE_zero h)]
    · have := firstE_hit h hk (n := n) (by omega)
      rw [if_neg (by rw [this]; exact hk)]; exact this
/-- the error of value j: no value; among the old ones or the ones before it -/
def errV (vs old : List ByteArray) (j : Nat) : Int := if cleanB (partAt vs j) = false then 4 else if memB old (partAt vs j) = true ∨ memB (vs.take j) (partAt vs j) = true then 7 else 0
def chkV (vs old : List ByteArray) : Int := firstE (errV vs old) vs.length
theorem StrsAt.cut {w : World} {ao : Option Addr} {n cap : Nat} {ps : List ByteArray} (h : StrsAt w ao n cap ps) (i : Nat) (hi : i ≤ n) : StrsAt w ao i cap (ps.take i) := by
  obtain ⟨h1, h2, h3, h4⟩ := h
  refine ⟨by rw [List.length_take]; omega, by omega, h3, fun hn => ?_⟩
  obtain ⟨b, off, e, hb, hs⟩ := h4 (by omega)
  refine ⟨b, off, e, hb, fun j hj => ?_⟩
  rw [List.length_take] at hj
  rw [hs j (by omega)]
  unfold partAt
  rw [List.getD_eq_getElem?_getD, List.getD_eq_getElem?_getD, List.getElem?_take, if_pos (by omega)]


end Go.Proofs.YtclfjdnemafmeaaGreatDoor
end
