/-
  Lists of attributes as values: ascending lists of strings without doubles, the normal form, and what determines it.
-/
import Derived.Test.YtminodinhbcgnaaDoorAttKind
import Derived.Lib.Bytealg
set_option maxRecDepth 100000
set_option linter.unusedVariables false
set_option linter.unusedSimpArgs false
set_option linter.unnecessarySimpa false
namespace Go.Proofs.YtminodinhbcgnaaDoor
open Go.RowKit Go.PlainAid

def cmpS (a b : ByteArray) : Int := Lib.compareBytes a.data.toList b.data.toList

theorem cb_range : ∀ a b : List UInt8, Lib.compareBytes a b = -1 ∨ Lib.compareBytes a b = 0 ∨ Lib.compareBytes a b = 1
  | [], [] => by simp [Lib.compareBytes]
  | [], _ :: _ => by simp [Lib.compareBytes]
  | _ :: _, [] => by simp [Lib.compareBytes]
  | a :: x, b :: y => by
    unfold Lib.compareBytes
    split
    · exact .inl rfl
    · split
      · exact .inr (.inr rfl)
      · exact cb_range x y
theorem cb_anti : ∀ a b : List UInt8, Lib.compareBytes b a = - Lib.compareBytes a b
  | [], [] => by simp [Lib.compareBytes]
  | [], _ :: _ => by simp [Lib.compareBytes]
  | _ :: _, [] => by simp [Lib.compareBytes]
  | a :: x, b :: y => by
    unfold Lib.compareBytes
    by_cases h1 : a < b
    · have h2 : ¬ b < a := by rw [UInt8.lt_iff_toNat_lt] at *; omega
      simp [h1, h2]
    · by_cases h2 : b < a
      · simp [h1, h2]
      · simp only [h1, h2, if_false]
        exact cb_anti x y
theorem cb_zero : ∀ a b : List UInt8, Lib.compareBytes a b = 0 ↔ a = b
  | [], [] => by simp [Lib.compareBytes]
  | [], _ :: _ => by simp [Lib.compareBytes]
  | _ :: _, [] => by simp [Lib.compareBytes]
  | a :: x, b :: y => by
    unfold Lib.compareBytes
    by_cases h1 : a < b
    · have : a ≠ b := fun e => by subst e; rw [UInt8.lt_iff_toNat_lt] at h1; omega
      simp [h1, this]
    · by_cases h2 : b < a
      · have : a ≠ b := fun e => by subst e; rw [UInt8.lt_iff_toNat_lt] at h2; omega
        simp [h1, h2, this]
      · have h3 : a = b := by apply UInt8.toNat_inj.1; rw [UInt8.lt_iff_toNat_lt] at h1 h2; omega
        simp only [h1, h2, if_false]
        rw [cb_zero x y]
        simp [h3]
theorem cb_trans : ∀ a b c : List UInt8, Lib.compareBytes a b ≤ 0 → Lib.compareBytes b c ≤ 0 → Lib.compareBytes a c ≤ 0
  | [], _, [] => by simp [Lib.compareBytes]
  | [], _, _ :: _ => by simp [Lib.compareBytes]
  | _ :: _, [], _ => by simp [Lib.compareBytes]
  | _ :: _, _ :: _, [] => by simp [Lib.compareBytes]
  | a :: x, b :: y, c :: z => by
    unfold Lib.compareBytes
    intro h1 h2
    by_cases ab : a < b
    · by_cases bc : b < c
      · have : a < c := by rw [UInt8.lt_iff_toNat_lt] at *; omega
        simp [this]
      · by_cases cb : c < b
        · simp [bc, cb] at h2
        · have : a < c := by rw [UInt8.lt_iff_toNat_lt] at *; omega
          simp [this]
    · by_cases ba : b < a
      · simp [ab, ba] at h1
      · simp only [ab, ba, if_false] at h1
        by_cases bc : b < c
        · have : a < c := by rw [UInt8.lt_iff_toNat_lt] at *; omega
          simp [this]
        · by_cases cb : c < b
          · simp [bc, cb] at h2
          · simp only [bc, cb, if_false] at h2
            have n1 : ¬ a < c := by rw [UInt8.lt_iff_toNat_lt] at *; omega
            have n2 : ¬ c < a := by rw [UInt8.lt_iff_toNat_lt] at *; omega
            simp only [n1, n2, if_false]
            exact cb_trans x y z h1 h2
theorem ba_ext {a b : ByteArray} (h : a.data.toList = b.data.toList) : a = b := by
  cases a; cases b; simp only [ByteArray.mk.injEq]; exact Array.toList_inj.1 h
structure Ord3 {α : Type} (f : α → α → Int) : Prop where
  range : ∀ a b, f a b = -1 ∨ f a b = 0 ∨ f a b = 1
  anti : ∀ a b, f b a = - f a b
  zero : ∀ a b, f a b = 0 ↔ a = b
  trans : ∀ a b c, f a b ≤ 0 → f b c ≤ 0 → f a c ≤ 0
theorem cmpS_ord : Ord3 cmpS :=
  ⟨fun a b => cb_range _ _, fun a b => cb_anti _ _, fun a b => by unfold cmpS; rw [cb_zero]; exact ⟨ba_ext, fun e => by rw [e]⟩, fun a b c h1 h2 => cb_trans _ _ _ h1 h2⟩
theorem lowB_low (c : UInt8) : lowB (lowB c) = lowB c := by
  have h3 : (32 : UInt8).toNat = 32 := rfl
  by_cases h : 65 ≤ c.toNat ∧ c.toNat ≤ 90
  · have e : (lowB c).toNat = c.toNat + 32 := by
      unfold lowB; rw [if_pos h, UInt8.toNat_add]; omega
    have h2 : ∀ d : UInt8, ¬ (65 ≤ d.toNat ∧ d.toNat ≤ 90) → lowB d = d := fun d hd => by unfold lowB; rw [if_neg hd]
    exact h2 _ (by omega)
  · have e : lowB c = c := by unfold lowB; rw [if_neg h]
    rw [e, e]
theorem lowL_low (l : List UInt8) : lowL (lowL l) = lowL l := by
  unfold lowL; rw [List.map_map]; apply List.map_congr_left; intro c _; exact lowB_low c

theorem lowS_low (s : ByteArray) : lowS (lowS s) = lowS s := by
  unfold lowS; rw [lowL_low]
theorem cs_irrefl (a : ByteArray) : ¬ cmpS a a < 0 := by have := (cmpS_ord.zero a a).2 rfl; omega
theorem cs_trans {a b c : ByteArray} (h1 : cmpS a b < 0) (h2 : cmpS b c < 0) : cmpS a c < 0 := by
  have h := cmpS_ord.trans a b c (by omega) (by omega)
  by_cases e : cmpS a c = 0
  · have k := (cmpS_ord.zero a c).1 e
    subst k
    have := cmpS_ord.anti a b
    omega
  · omega
theorem cs_asymm {a b : ByteArray} (h : cmpS a b < 0) : ¬ cmpS b a < 0 := by have := cmpS_ord.anti a b; omega
theorem cs_tri (a b : ByteArray) : cmpS a b < 0 ∨ a = b ∨ cmpS b a < 0 := by
  have h1 := cmpS_ord.range a b
  have h2 := cmpS_ord.anti a b
  have h3 := cmpS_ord.zero a b
  by_cases h : cmpS a b = 0
  · exact .inr (.inl (h3.1 h))
  · omega
theorem cs_ne {a b : ByteArray} (h : cmpS a b < 0) : a ≠ b := fun e => by subst e; exact cs_irrefl _ h

/-! ### ascending lists without doubles -/
def Asc (l : List ByteArray) : Prop := l.Pairwise fun a b => cmpS a b < 0
def insS : List ByteArray → ByteArray → List ByteArray
  | [], s => [s]
  | x :: r, s => if cmpS x s < 0 then x :: insS r s else if x = s then x :: r else s :: x :: r
theorem insS_mem {x s : ByteArray} : ∀ {l : List ByteArray}, x ∈ insS l s ↔ x ∈ l ∨ x = s
  | [] => by simp [insS]
  | y :: r => by
    unfold insS
    by_cases h : cmpS y s < 0
    · rw [if_pos h, List.mem_cons, List.mem_cons, insS_mem, or_assoc]
    · rw [if_neg h]
      by_cases e : y = s
      · rw [if_pos e]
        subst e
        simp only [List.mem_cons]
        exact ⟨fun k => k.elim (fun k => .inr k) (fun k => .inl (.inr k)), fun k => k.elim id .inl⟩
      · rw [if_neg e]
        simp only [List.mem_cons]
        exact ⟨fun k => k.elim .inr .inl, fun k => k.elim .inr .inl⟩
theorem insS_asc {s : ByteArray} : ∀ {l : List ByteArray}, Asc l → Asc (insS l s)
  | [], _ => List.pairwise_singleton _ _
  | y :: r, h => by
    have h' := List.pairwise_cons.1 h
    unfold insS
    by_cases hy : cmpS y s < 0
    · rw [if_pos hy]
      refine List.pairwise_cons.2 ⟨fun x hx => ?_, insS_asc h'.2⟩
      rcases insS_mem.1 hx with k | k
      · exact h'.1 x k
      · rw [k]; exact hy
    · rw [if_neg hy]
      by_cases e : y = s
      · rw [if_pos e]; exact h
      · rw [if_neg e]
        have hs : cmpS s y < 0 := (cs_tri y s).elim (fun k => absurd k hy) fun k => k.elim (fun k => absurd k e) id
        refine List.pairwise_cons.2 ⟨fun x hx => ?_, h⟩
        rcases List.mem_cons.1 hx with k | k
        · rw [k]; exact hs
        · exact cs_trans hs (h'.1 x k)
theorem asc_ext : ∀ {a b : List ByteArray}, Asc a → Asc b → (∀ x, x ∈ a ↔ x ∈ b) → a = b
  | [], [], _, _, _ => rfl
  | [], y :: r, _, _, h => absurd ((h y).2 (List.mem_cons_self ..)) (List.not_mem_nil)
  | x :: r, [], _, _, h => absurd ((h x).1 (List.mem_cons_self ..)) (List.not_mem_nil)
  | x :: a, y :: b, ha, hb, h => by
    have ha' := List.pairwise_cons.1 ha
    have hb' := List.pairwise_cons.1 hb
    have e : x = y := by
      rcases List.mem_cons.1 ((h x).1 (List.mem_cons_self ..)) with k | k
      · exact k
      · rcases List.mem_cons.1 ((h y).2 (List.mem_cons_self ..)) with j | j
        · exact j.symm
        · exact absurd (ha'.1 y j) (cs_asymm (hb'.1 x k))
    subst e
    rw [asc_ext ha'.2 hb'.2 fun z => ?_]
    constructor
    · intro hz
      rcases List.mem_cons.1 ((h z).1 (List.mem_cons_of_mem _ hz)) with k | k
      · exact absurd k.symm (cs_ne (ha'.1 z hz))
      · exact k
    · intro hz
      rcases List.mem_cons.1 ((h z).2 (List.mem_cons_of_mem _ hz)) with k | k
      · exact absurd k.symm (cs_ne (hb'.1 z hz))
      · exact k
def sortU (l : List ByteArray) : List ByteArray := l.foldl insS []
theorem foldl_mem {x : ByteArray} : ∀ (l a : List ByteArray), x ∈ l.foldl insS a ↔ x ∈ a ∨ x ∈ l
  | [], a => by simp
  | y :: r, a => by
    rw [List.foldl_cons, foldl_mem r, insS_mem, List.mem_cons, or_assoc]
theorem foldl_asc : ∀ (l a : List ByteArray), Asc a → Asc (l.foldl insS a)
  | [], _, h => h
  | _ :: r, _, h => by rw [List.foldl_cons]; exact foldl_asc r _ (insS_asc h)
theorem sortU_mem {x : ByteArray} {l : List ByteArray} : x ∈ sortU l ↔ x ∈ l := by unfold sortU; rw [foldl_mem]; simp
theorem sortU_asc (l : List ByteArray) : Asc (sortU l) := foldl_asc l [] List.Pairwise.nil
theorem sortU_id {l : List ByteArray} (h : Asc l) : sortU l = l := asc_ext (sortU_asc l) h fun _ => sortU_mem
theorem sortU_snoc (l : List ByteArray) (s : ByteArray) : sortU (l ++ [s]) = insS (sortU l) s := by unfold sortU; rw [List.foldl_append]; rfl
theorem sortU_eq {a b : List ByteArray} (h : ∀ x, x ∈ a ↔ x ∈ b) : sortU a = sortU b :=
  asc_ext (sortU_asc a) (sortU_asc b) fun x => by rw [sortU_mem, sortU_mem]; exact h x
theorem sortU_nil {l : List ByteArray} : sortU l = [] ↔ l = [] := by
  constructor
  · intro h
    cases l with
    | nil => rfl
    | cons x r => exact absurd (h ▸ sortU_mem.2 (List.mem_cons_self ..) : x ∈ ([] : List ByteArray)) List.not_mem_nil
  · intro h; rw [h]; rfl
theorem insS_len : ∀ (l : List ByteArray) (s : ByteArray), (insS l s).length ≤ l.length + 1
  | [], _ => Nat.le_refl _
  | x :: r, s => by
    unfold insS
    have := insS_len r s
    split
    · simpa using this
    · split <;> simp
theorem foldl_len : ∀ (l a : List ByteArray), (l.foldl insS a).length ≤ a.length + l.length
  | [], _ => Nat.le_refl _
  | y :: r, a => by
    rw [List.foldl_cons, List.length_cons]
    have h1 := foldl_len r (insS a y)
    have h2 := insS_len a y
    omega
theorem sortU_len (l : List ByteArray) : (sortU l).length ≤ l.length := by have := foldl_len l []; simpa [sortU] using this
theorem asc_nodup {l : List ByteArray} (h : Asc l) : l.Nodup := h.imp cs_ne
/-- a list without doubles keeps its length -/
theorem insS_len_new : ∀ {l : List ByteArray} {s : ByteArray}, Asc l → s ∉ l → (insS l s).length = l.length + 1
  | [], _, _, _ => rfl
  | x :: r, s, h, hn => by
    unfold insS
    have hr := insS_len_new (List.pairwise_cons.1 h).2 (fun k => hn (List.mem_cons_of_mem _ k))
    by_cases h1 : cmpS x s < 0
    · rw [if_pos h1]; simpa using hr
    · rw [if_neg h1, if_neg (fun e => hn (by rw [e]; exact List.mem_cons_self ..))]; simp
theorem foldl_len_new : ∀ (l a : List ByteArray), Asc a → l.Nodup → (∀ x ∈ l, x ∉ a) → (l.foldl insS a).length = a.length + l.length
  | [], _, _, _, _ => rfl
  | y :: r, a, ha, hl, hd => by
    have hl' := List.nodup_cons.1 hl
    rw [List.foldl_cons, foldl_len_new r _ (insS_asc ha) hl'.2 (fun x hx k => ?_), insS_len_new ha (hd y (List.mem_cons_self ..)), List.length_cons]
    · omega
    · rcases insS_mem.1 k with k | k
      · exact hd x (List.mem_cons_of_mem _ hx) k
      · exact hl'.1 (k ▸ hx)
theorem sortU_len_new {l : List ByteArray} (h : l.Nodup) : (sortU l).length = l.length := by
  have := foldl_len_new l [] List.Pairwise.nil h (fun _ _ => List.not_mem_nil)
  simpa [sortU] using this

/-! ### attributes -/
abbrev At := ByteArray × List ByteArray
/-- the attribute with the name n has the value v -/
def Hs (l : List At) (n v : ByteArray) : Prop := ∃ a ∈ l, a.1 = n ∧ v ∈ a.2
/-- .. whatever the letters' case -/
def Hl (l : List At) (n v : ByteArray) : Prop := ∃ a ∈ l, lowS a.1 = n ∧ v ∈ a.2
structure NF (l : List At) : Prop where
  asc : Asc (l.map (·.1))
  low : ∀ a ∈ l, lowS a.1 = a.1
  vasc : ∀ a ∈ l, Asc a.2
  ne : ∀ a ∈ l, a.2 ≠ []
/-- all values of the attributes with a name in small letters -/
def allV (l : List At) (n : ByteArray) : List ByteArray := (l.filter fun a => decide (lowS a.1 = n)).flatMap (·.2)
def vals (l : List At) (n : ByteArray) : List ByteArray := sortU (allV l n)
def names (l : List At) : List ByteArray := sortU ((l.filter fun a => !a.2.isEmpty).map fun a => lowS a.1)
/-- the normal form -/
def nf (l : List At) : List At := (names l).map fun n => (n, vals l n)
theorem allV_mem {l : List At} {n v : ByteArray} : v ∈ allV l n ↔ Hl l n v := by
  unfold allV Hl
  simp only [List.mem_flatMap, List.mem_filter, decide_eq_true_eq]
  exact ⟨fun ⟨a, ⟨h1, h2⟩, h3⟩ => ⟨a, h1, h2, h3⟩, fun ⟨a, h1, h2, h3⟩ => ⟨a, ⟨h1, h2⟩, h3⟩⟩
theorem vals_mem {l : List At} {n v : ByteArray} : v ∈ vals l n ↔ Hl l n v := by unfold vals; rw [sortU_mem, allV_mem]
theorem vals_asc (l : List At) (n : ByteArray) : Asc (vals l n) := sortU_asc _
theorem names_mem {l : List At} {n : ByteArray} : n ∈ names l ↔ ∃ v, Hl l n v := by
  unfold names Hl
  rw [sortU_mem, List.mem_map]
  constructor
  · rintro ⟨a, ha, e⟩
    rw [List.mem_filter] at ha
    cases h : a.2 with
    | nil => rw [h] at ha; simp at ha
    | cons v r => exact ⟨v, a, ha.1, e, by rw [h]; exact List.mem_cons_self ..⟩
  · rintro ⟨v, a, ha, e, hv⟩
    refine ⟨a, List.mem_filter.2 ⟨ha, ?_⟩, e⟩
    cases h : a.2 with
    | nil => rw [h] at hv; exact absurd hv List.not_mem_nil
    | cons v r => rfl
theorem names_vals {l : List At} {n : ByteArray} : n ∈ names l ↔ vals l n ≠ [] := by
  rw [names_mem]
  constructor
  · rintro ⟨v, hv⟩ e
    have := vals_mem.2 hv
    rw [e] at this
    exact absurd this List.not_mem_nil
  · intro h
    obtain ⟨v, hv⟩ := List.exists_mem_of_ne_nil _ h
    exact ⟨v, vals_mem.1 hv⟩
theorem nf_names (l : List At) : (nf l).map (·.1) = names l := by unfold nf; rw [List.map_map]; exact List.map_id _
theorem nf_mem {l : List At} {a : At} : a ∈ nf l ↔ a.2 = vals l a.1 ∧ a.2 ≠ [] := by
  unfold nf
  rw [List.mem_map]
  constructor
  · rintro ⟨n, hn, rfl⟩; exact ⟨rfl, names_vals.1 hn⟩
  · rintro ⟨h1, h2⟩
    refine ⟨a.1, names_vals.2 (h1 ▸ h2), ?_⟩
    rw [← h1]
theorem nf_NF (l : List At) : NF (nf l) where
  asc := by rw [nf_names]; exact sortU_asc _
  low a ha := by
    obtain ⟨h1, h2⟩ := nf_mem.1 ha
    rw [h1] at h2
    obtain ⟨v, hv⟩ := names_mem.1 (names_vals.2 h2)
    obtain ⟨b, _, e, _⟩ := hv
    rw [← e, lowS_low]
  vasc a ha := by rw [(nf_mem.1 ha).1]; exact vals_asc _ _
  ne a ha := (nf_mem.1 ha).2
theorem hs_nf {l : List At} {n v : ByteArray} : Hs (nf l) n v ↔ Hl l n v := by
  unfold Hs
  constructor
  · rintro ⟨a, ha, rfl, hv⟩
    rw [(nf_mem.1 ha).1, vals_mem] at hv
    exact hv
  · intro h
    have hv := vals_mem.2 h
    exact ⟨(n, vals l n), nf_mem.2 ⟨rfl, fun e => by simp only [] at e; rw [e] at hv; exact absurd hv List.not_mem_nil⟩, rfl, hv⟩
theorem hl_low {l : List At} (h : ∀ a ∈ l, lowS a.1 = a.1) {n v : ByteArray} : Hl l n v ↔ Hs l n v :=
  ⟨fun ⟨a, ha, e, hv⟩ => ⟨a, ha, (h a ha).symm.trans e, hv⟩, fun ⟨a, ha, e, hv⟩ => ⟨a, ha, (h a ha).trans e, hv⟩⟩
theorem hl_nf {l : List At} {n v : ByteArray} : Hl (nf l) n v ↔ Hl l n v := (hl_low (nf_NF l).low).trans hs_nf
/-- of ascending names the one with a name is one alone -/
theorem nf_one {l : List At} (h : Asc (l.map (·.1))) {a b : At} (ha : a ∈ l) (hb : b ∈ l) (e : a.1 = b.1) : a = b := by
  unfold Asc at h
  rw [List.pairwise_map] at h
  rcases List.pairwise_iff_getElem.1 h with h'
  obtain ⟨i, hi, rfl⟩ := List.getElem_of_mem ha
  obtain ⟨j, hj, rfl⟩ := List.getElem_of_mem hb
  rcases Nat.lt_trichotomy i j with k | k | k
  · exact absurd e (cs_ne (h' i j hi hj k))
  · subst k; rfl
  · exact absurd e.symm (cs_ne (h' j i hj hi k))
theorem nf_ext {a b : List At} (ha : NF a) (hb : NF b) (h : ∀ n v, Hs a n v ↔ Hs b n v) : a = b := by
  have key : ∀ {a b : List At}, NF a → NF b → (∀ n v, Hs a n v ↔ Hs b n v) → ∀ x ∈ a, x ∈ b := by
    intro a b ha hb h x hx
    obtain ⟨v, hv⟩ := List.exists_mem_of_ne_nil _ (ha.ne x hx)
    obtain ⟨y, hy, e, _⟩ := (h x.1 v).1 ⟨x, hx, rfl, hv⟩
    have : x.2 = y.2 := asc_ext (ha.vasc x hx) (hb.vasc y hy) fun z => by
      constructor
      · intro hz
        obtain ⟨y', hy', e', hz'⟩ := (h x.1 z).1 ⟨x, hx, rfl, hz⟩
        rw [nf_one hb.asc hy hy' (e.trans e'.symm)]; exact hz'
      · intro hz
        obtain ⟨x', hx', e', hz'⟩ := (h x.1 z).2 ⟨y, hy, e, hz⟩
        rw [nf_one ha.asc hx hx' e'.symm]; exact hz'
    rw [show x = y from Prod.ext e.symm this]; exact hy
  have hm : a.map (·.1) = b.map (·.1) := asc_ext ha.asc hb.asc fun n => by
    rw [List.mem_map, List.mem_map]
    exact ⟨fun ⟨x, hx, e⟩ => ⟨x, key ha hb h x hx, e⟩, fun ⟨x, hx, e⟩ => ⟨x, key hb ha (fun n v => (h n v).symm) x hx, e⟩⟩
  have hlen : a.length = b.length := by simpa using congrArg List.length hm
  apply List.ext_getElem hlen
  intro i h1 h2
  refine nf_one hb.asc (key ha hb h _ (List.getElem_mem h1)) (List.getElem_mem h2) ?_
  have := congrArg (fun l => l[i]?) hm
  simpa [List.getElem?_map, List.getElem?_eq_getElem h1, List.getElem?_eq_getElem h2] using this
theorem nf_id {l : List At} (h : NF l) : nf l = l := nf_ext (nf_NF l) h fun n v => hs_nf.trans (hl_low h.low)
theorem nf_nf (l : List At) : nf (nf l) = nf l := nf_id (nf_NF l)
theorem vals_nf (l : List At) (n : ByteArray) : vals (nf l) n = vals l n := asc_ext (vals_asc _ _) (vals_asc _ _) fun v => by rw [vals_mem, vals_mem, hl_nf]
theorem nf_get {l : List At} {a : At} (h : NF l) (ha : a ∈ l) : vals l a.1 = a.2 := asc_ext (vals_asc _ _) (h.vasc a ha) fun v => by
  rw [vals_mem, hl_low h.low]
  exact ⟨fun ⟨b, hb, e, hv⟩ => by rw [nf_one h.asc ha hb e.symm]; exact hv, fun hv => ⟨a, ha, rfl, hv⟩⟩


end Go.Proofs.YtminodinhbcgnaaDoor
