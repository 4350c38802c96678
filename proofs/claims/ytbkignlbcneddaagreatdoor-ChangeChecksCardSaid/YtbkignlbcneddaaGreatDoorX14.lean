/-
  Texts of the schema layer and of those beneath it, joined: ChgL, ChgM, ChgMem, ChgCc, ChgAd, ChgK1, ChgK2. Conditions stand at each contract.
-/
import Derived.Lib.AppendZeros
import Derived.StillTailTactics
import Derived.Test.YtbkignlbcneddaaGreatDoorX02
import Derived.Test.YtbkignlbcneddaaGreatDoorX03
import Derived.Test.YtbkignlbcneddaaGreatDoorX06
import Derived.Test.YtbkignlbcneddaaGreatDoorX08
import Derived.Test.YtbkignlbcneddaaGreatDoorX09
import Derived.Test.YtbkignlbcneddaaGreatDoorX11
import Derived.Test.YtbkignlbcneddaaGreatDoorX12
import Derived.Test.YtbkignlbcneddaaGreatDoorX13
set_option linter.unusedVariables false
set_option linter.unusedSimpArgs false
set_option linter.unnecessarySimpa false

section
/-
  Plain functions for change records: their errors, their lines, what a line is read as, and that writing and reading are inverse to each other. Nothing of the program stands here. No condition.
-/
set_option maxRecDepth 100000
namespace Go.Proofs.YtbkignlbcneddaaGreatDoor
open Go.PlainAid
open Csn (Cn Vld vldC parEC parVC fmtS fmtL parEC_fmt parEC_ok)
def nilS : ByteArray := ⟨#[]⟩
/-- a change record: its number, kind, identifier, name, attribute and value -/
structure Chg where
  c : Cn
  op : Int
  id : ByteArray
  nm : ByteArray
  ak : ByteArray
  vl : ByteArray
theorem Chg.ext' {g h : Chg} (h1 : g.c = h.c) (h2 : g.op = h.op) (h3 : g.id = h.id) (h4 : g.nm = h.nm) (h5 : g.ak = h.ak) (h6 : g.vl = h.vl) : g = h := by
  cases g; cases h; simp only at h1 h2 h3 h4 h5 h6; subst h1 h2 h3 h4 h5 h6; rfl
instance : DecidableEq Chg := fun g h => decidable_of_iff (g.c = h.c ∧ g.op = h.op ∧ g.id = h.id ∧ g.nm = h.nm ∧ g.ak = h.ak ∧ g.vl = h.vl)
  ⟨fun ⟨h1, h2, h3, h4, h5, h6⟩ => Chg.ext' h1 h2 h3 h4 h5 h6, fun e => by rw [e]; exact ⟨rfl, rfl, rfl, rfl, rfl, rfl⟩⟩
def zeroG : Chg := ⟨(0, 0, 0), 0, nilS, nilS, nilS, nilS⟩
def idB (s : ByteArray) : Bool := decide (parEC s.data.toList = 0)
def useN (op : Int) : Bool := decide (op = 1) || decide (op = 3)
def useV (op : Int) : Bool := decide (op = 4) || decide (op = 5)
def unused (g : Chg) : Bool := (!useN g.op && decide (g.nm ≠ nilS)) || (!useV g.op && (decide (g.ak ≠ nilS) || decide (g.vl ≠ nilS)))
def valE (a v : ByteArray) : Int := if nameB a = false ∨ lowS a ≠ a then 5 else if cleanB v = false then 8 else 0
def chkG (g : Chg) : Int :=
  if vldC g.c = false ∨ g.op < 1 ∨ 5 < g.op then 2 else if idB g.id = false ∨ unused g = true then 4
  else if useN g.op = true then (if g.nm = nilS ∨ Nam.normB g.nm = false then 5 else 0) else if useV g.op = true then valE g.ak g.vl else 0
def createW : ByteArray := ⟨#[99, 114, 101, 97, 116, 101]⟩
def removeW : ByteArray := ⟨#[114, 101, 109, 111, 118, 101]⟩
def renameW : ByteArray := ⟨#[114, 101, 110, 97, 109, 101]⟩
def putW : ByteArray := ⟨#[112, 117, 116]⟩
def dropW : ByteArray := ⟨#[100, 114, 111, 112]⟩
def wordW (op : Int) : ByteArray := if op = 1 then createW else if op = 2 then removeW else if op = 3 then renameW else if op = 4 then putW else dropW
def opW (s : ByteArray) : Int := if s = createW then 1 else if s = removeW then 2 else if s = renameW then 3 else if s = putW then 4 else if s = dropW then 5 else 0
def escA (s : ByteArray) : ByteArray := ⟨(escL s.data.toList).toArray⟩
/-- the fields that the kind uses -/
def argsG (g : Chg) : List ByteArray := if useN g.op = true then [g.nm] else if useV g.op = true then [g.ak, g.vl] else []
def wordsG (g : Chg) : List ByteArray := [wordW g.op, fmtS g.c, g.id] ++ (argsG g).map escA
def lineG (g : Chg) : ByteArray := joinB 32 (wordsG g)
def lnV (g : Chg) : ByteArray := if chkG g = 0 then lineG g else nilS
/-- the record of a line's words -/
def recG (ws : List ByteArray) : Option Chg := match ws with
  | a :: b :: i :: r => if parEC b.data.toList ≠ 0 then none else
      (match r with
      | [] => if useN (opW a) = false ∧ useV (opW a) = false then some ⟨parVC b.data.toList, opW a, i, nilS, nilS, nilS⟩ else none
      | [x] => if useN (opW a) = true ∧ unE x = 0 then some ⟨parVC b.data.toList, opW a, i, unS x, nilS, nilS⟩ else none
      | [x, y] => if useV (opW a) = true ∧ unE x = 0 ∧ unE y = 0 then some ⟨parVC b.data.toList, opW a, i, nilS, unS x, unS y⟩ else none
      | _ => none)
  | _ => none
def parG (s : ByteArray) : Option Chg := (recG (partsB 32 s)).bind fun g => if chkG g = 0 then some g else none
theorem useNV {op : Int} (h : useN op = true) : useV op = false := by
  unfold useN at h; unfold useV
  simp only [Bool.or_eq_true, decide_eq_true_eq] at h
  rcases h with h | h <;> subst h <;> rfl
/-- what an accepted record is -/
structure OkG (g : Chg) : Prop where
  vld : Vld g.c
  lo : 1 ≤ g.op
  hi : g.op ≤ 5
  id : idB g.id = true
  un : unused g = false
theorem chk_ok {g : Chg} (h : chkG g = 0) : OkG g := by
  unfold chkG at h
  split at h
  · cases h
  · rename_i h1
    split at h
    · cases h
    · rename_i h2
      simp only [not_or] at h1 h2
      refine ⟨(Csn.vldC_iff _).1 ?_, by omega, by omega, ?_, ?_⟩
      · cases e : vldC g.c
        · exact absurd e h1.1
        · rfl
      · cases e : idB g.id
        · exact absurd e h2.1
        · rfl
      · cases e : unused g
        · rfl
        · exact absurd e h2.2
theorem OkG.nm {g : Chg} (h : OkG g) (k : useN g.op = false) : g.nm = nilS := by
  have := h.un
  unfold unused at this
  rw [k] at this
  simp only [Bool.not_false, Bool.true_and, Bool.or_eq_false_iff, decide_eq_false_iff_not, ne_eq, Decidable.not_not] at this
  exact this.1
theorem OkG.av {g : Chg} (h : OkG g) (k : useV g.op = false) : g.ak = nilS ∧ g.vl = nilS := by
  have := h.un
  unfold unused at this
  rw [k] at this
  simp only [Bool.not_false, Bool.true_and, Bool.or_eq_false_iff, decide_eq_false_iff_not, ne_eq, Decidable.not_not] at this
  exact this.2
theorem op_word {op : Int} (h1 : 1 ≤ op) (h5 : op ≤ 5) : opW (wordW op) = op := by
  rcases (show op = 1 ∨ op = 2 ∨ op = 3 ∨ op = 4 ∨ op = 5 by omega) with rfl | rfl | rfl | rfl | rfl <;> decide +kernel
theorem word_op {s : ByteArray} (h : opW s ≠ 0) : wordW (opW s) = s ∧ 1 ≤ opW s ∧ opW s ≤ 5 := by
  unfold opW at h ⊢
  by_cases h1 : s = createW
  · rw [if_pos h1, h1]; exact ⟨rfl, by decide, by decide⟩
  · rw [if_neg h1] at h ⊢
    by_cases h2 : s = removeW
    · rw [if_pos h2, h2]; exact ⟨rfl, by decide, by decide⟩
    · rw [if_neg h2] at h ⊢
      by_cases h3 : s = renameW
      · rw [if_pos h3, h3]; exact ⟨rfl, by decide, by decide⟩
      · rw [if_neg h3] at h ⊢
        by_cases h4 : s = putW
        · rw [if_pos h4, h4]; exact ⟨rfl, by decide, by decide⟩
        · rw [if_neg h4] at h ⊢
          by_cases h5 : s = dropW
          · rw [if_pos h5, h5]; exact ⟨rfl, by decide, by decide⟩
          · rw [if_neg h5] at h; exact absurd rfl h
theorem un_esc (s : ByteArray) : unS (escA s) = s ∧ unE (escA s) = 0 := by
  have h := unesc_esc s.data.toList
  constructor
  · unfold unS escA
    show (match unesc (escL s.data.toList) with | some m => _ | none => _) = s
    rw [h]
  · unfold unE escA
    show (match unesc (escL s.data.toList) with | some m => _ | none => _) = _
    rw [h]
theorem esc_un {s : ByteArray} (h : unE s = 0) : escA (unS s) = s := by
  unfold unE at h
  unfold unS escA
  cases e : unesc s.data.toList with
  | none => rw [e] at h; cases h
  | some m =>
    simp only []
    show (⟨(escL m).toArray⟩ : ByteArray) = s
    rw [esc_unesc _ _ e]
theorem fmt_un {s : ByteArray} (h : parEC s.data.toList = 0) : fmtS (parVC s.data.toList) = s ∧ Vld (parVC s.data.toList) := by
  obtain ⟨h1, h2⟩ := parEC_ok h
  refine ⟨?_, h1⟩
  unfold fmtS
  rw [if_pos h1, h2]
theorem un_fmt {c : Cn} (h : Vld c) : parEC (fmtS c).data.toList = 0 ∧ parVC (fmtS c).data.toList = c := by
  unfold fmtS
  rw [if_pos h]
  exact parEC_fmt h
/-- the words of an accepted record are read as it -/
theorem rec_words {g : Chg} (h : OkG g) : recG (wordsG g) = some g := by
  obtain ⟨e1, e2⟩ := un_fmt h.vld
  have e3 := op_word h.lo h.hi
  unfold recG wordsG
  simp only [List.cons_append, List.nil_append]
  rw [if_neg (by rw [e1]; simp), e2, e3]
  unfold argsG
  cases hN : useN g.op
  · cases hV : useV g.op
    · simp only [Bool.false_eq_true, if_false, List.map_nil, and_self, if_true]
      exact congrArg some (Chg.ext' rfl rfl rfl (h.nm hN).symm (h.av hV).1.symm (h.av hV).2.symm)
    · simp only [Bool.false_eq_true, if_false, if_true, List.map_cons, List.map_nil]
      rw [if_pos ⟨trivial, (un_esc _).2, (un_esc _).2⟩, (un_esc _).1, (un_esc _).1]
      exact congrArg some (Chg.ext' rfl rfl rfl (h.nm hN).symm rfl rfl)
  · have hV := useNV hN
    simp only [if_true, List.map_cons, List.map_nil]
    rw [if_pos ⟨trivial, (un_esc _).2⟩, (un_esc _).1]
    exact congrArg some (Chg.ext' rfl rfl rfl rfl (h.av hV).1.symm (h.av hV).2.symm)
/-- what is read has just these words -/
theorem words_rec {ws : List ByteArray} {g : Chg} (h : recG ws = some g) (hk : OkG g) : wordsG g = ws := by
  unfold recG at h
  match ws, h with
  | a :: b :: i :: r, h =>
    simp only at h
    split at h
    · cases h
    · rename_i hb
      have hb : parEC b.data.toList = 0 := Decidable.not_not.1 hb
      obtain ⟨f1, f2⟩ := fmt_un hb
      match r, h with
      | [], h =>
        simp only at h
        split at h
        · rename_i hu
          cases h
          obtain ⟨w1, w2, w3⟩ := word_op (s := a) (by have := hk.lo; simp only at this; omega)
          unfold wordsG argsG
          simp only [hu.1, hu.2, Bool.false_eq_true, if_false, List.map_nil, List.append_nil]
          rw [w1, f1]
        · cases h
      | [x], h =>
        simp only at h
        split at h
        · rename_i hu
          cases h
          obtain ⟨w1, w2, w3⟩ := word_op (s := a) (by have := hk.lo; simp only at this; omega)
          unfold wordsG argsG
          simp only [hu.1, if_true, List.map_cons, List.map_nil, List.cons_append, List.nil_append]
          rw [w1, f1, esc_un hu.2]
        · cases h
      | [x, y], h =>
        simp only at h
        split at h
        · rename_i hu
          cases h
          obtain ⟨w1, w2, w3⟩ := word_op (s := a) (by have := hk.lo; simp only at this; omega)
          have hN : useN (opW a) = false := by
            cases e : useN (opW a)
            · rfl
            · have := useNV e; rw [hu.1] at this; cases this
          unfold wordsG argsG
          simp only [hu.1, hN, Bool.false_eq_true, if_false, if_true, List.map_cons, List.map_nil, List.cons_append, List.nil_append]
          rw [w1, f1, esc_un hu.2.1, esc_un hu.2.2]
        · cases h
      | _ :: _ :: _ :: _, h => cases h
  | [], h => cases h
  | [_], h => cases h
  | [_, _], h => cases h
theorem escfree_t : ∀ n : Nat, n < 256 → (32 : UInt8) ∉ escC (UInt8.ofNat n) ∧ (10 : UInt8) ∉ escC (UInt8.ofNat n) := by decide +kernel
theorem escfree (l : List UInt8) : (32 : UInt8) ∉ escL l ∧ (10 : UInt8) ∉ escL l := by
  have key : ∀ c : UInt8, (32 : UInt8) ∉ escC c ∧ (10 : UInt8) ∉ escC c := fun c => by
    have := escfree_t c.toNat c.toNat_lt
    rwa [UInt8.ofNat_toNat] at this
  unfold escL
  constructor
  · intro h
    obtain ⟨c, _, hc⟩ := List.mem_flatMap.1 h
    exact (key c).1 hc
  · intro h
    obtain ⟨c, _, hc⟩ := List.mem_flatMap.1 h
    exact (key c).2 hc
theorem hex_free : ∀ d : Nat, d < 16 → hexD d ≠ 32 ∧ hexD d ≠ 10 := by decide +kernel
theorem hexK_free : ∀ (k n : Nat), (32 : UInt8) ∉ hexK k n ∧ (10 : UInt8) ∉ hexK k n
  | 0, n => by unfold hexK; exact ⟨List.not_mem_nil, List.not_mem_nil⟩
  | k + 1, n => by
    have ih := hexK_free k n
    have h := hex_free (n / 16 ^ k % 16) (Nat.mod_lt _ (by decide))
    rw [hexK_front]
    exact ⟨fun e => by rcases List.mem_cons.1 e with e | e; exact h.1 e.symm; exact ih.1 e, fun e => by rcases List.mem_cons.1 e with e | e; exact h.2 e.symm; exact ih.2 e⟩
theorem fmt_free {c : Cn} (h : Vld c) : (32 : UInt8) ∉ (fmtS c).data.toList ∧ (10 : UInt8) ∉ (fmtS c).data.toList := by
  unfold fmtS
  rw [if_pos h]
  show (32 : UInt8) ∉ fmtL c ∧ (10 : UInt8) ∉ fmtL c
  unfold fmtL
  have a := hexK_free 11 c.1.toNat
  have b := hexK_free 8 c.2.1.toNat
  have d := hexK_free 1 c.2.2.toNat
  constructor
  · simp only [List.mem_append, List.mem_cons, not_or]
    exact ⟨a.1, by decide, b.1, by decide, d.1⟩
  · simp only [List.mem_append, List.mem_cons, not_or]
    exact ⟨a.2, by decide, b.2, by decide, d.2⟩
theorem id_free {s : ByteArray} (h : idB s = true) : (32 : UInt8) ∉ s.data.toList ∧ (10 : UInt8) ∉ s.data.toList := by
  have h := of_decide_eq_true h
  obtain ⟨h1, h2⟩ := fmt_un h
  rw [← h1]; exact fmt_free h2
theorem word_free (op : Int) : (32 : UInt8) ∉ (wordW op).data.toList ∧ (10 : UInt8) ∉ (wordW op).data.toList := by
  unfold wordW
  (repeat' split) <;> decide
theorem words_free {g : Chg} (h : OkG g) : ∀ s ∈ wordsG g, (32 : UInt8) ∉ s.data.toList ∧ (10 : UInt8) ∉ s.data.toList := by
  intro s hs
  unfold wordsG at hs
  simp only [List.cons_append, List.nil_append, List.mem_cons, List.mem_map] at hs
  rcases hs with rfl | rfl | rfl | ⟨x, _, rfl⟩
  · exact word_free _
  · exact fmt_free h.vld
  · exact id_free h.id
  · exact escfree _
theorem line_parts {g : Chg} (h : OkG g) : partsB 32 (lineG g) = wordsG g :=
  parts_join (by unfold wordsG; simp) fun s hs => (words_free h s hs).1
theorem par_line {g : Chg} (h : chkG g = 0) : parG (lineG g) = some g := by
  unfold parG
  rw [line_parts (chk_ok h), rec_words (chk_ok h)]
  exact if_pos h
theorem line_par {s : ByteArray} {g : Chg} (h : parG s = some g) : chkG g = 0 ∧ lineG g = s := by
  unfold parG at h
  cases e : recG (partsB 32 s) with
  | none => rw [e] at h; cases h
  | some k =>
    rw [e] at h
    have h : (if chkG k = 0 then some k else none) = some g := h
    split at h
    · rename_i hk
      cases h
      exact ⟨hk, by unfold lineG; rw [words_rec e (chk_ok hk)]; exact join_parts 32 s⟩
    · cases h
/-- a record is read from a line just if it has no error and this line -/
theorem par_iff {s : ByteArray} {g : Chg} : parG s = some g ↔ chkG g = 0 ∧ lineG g = s :=
  ⟨line_par, fun h => by rw [← h.2]; exact par_line h.1⟩
end Go.Proofs.YtbkignlbcneddaaGreatDoor
end

section
/-
  Plain functions for lists of change records: the union of two lists, what a vector does not contain, the vector of a list, the text of a list. Nothing of the program stands here. No condition.
-/
set_option maxRecDepth 100000
namespace Go.Proofs.YtbkignlbcneddaaGreatDoor
open Go.PlainAid
open Csn (Cn Vld vldC ltC ltC_irr ltC_trans ltC_tri ltC_asymm lstC VecC vecO covC noteC lst_vec lst_lst vecO_self)
/-! ### the record kept of a number -/
def pickG (n : Cn) (o : Option Chg) (g : Chg) : Option Chg := if chkG g = 0 ∧ g.c = n then (match o with
  | none => some g
  | some d => if cmpS (lineG g) (lineG d) < 0 then some g else some d) else o
def bestG (l : List Chg) (n : Cn) : Option Chg := l.foldl (pickG n) none
def IsB (n : Cn) (l : List Chg) : Option Chg → Prop
  | none => ∀ g ∈ l, chkG g = 0 → g.c ≠ n
  | some b => b ∈ l ∧ chkG b = 0 ∧ b.c = n ∧ ∀ g ∈ l, chkG g = 0 → g.c = n → ¬ cmpS (lineG g) (lineG b) < 0
theorem mem_snoc {l : List Chg} {g d : Chg} (h : d ∈ l ++ [g]) : d ∈ l ∨ d = g := by
  rcases List.mem_append.1 h with h | h
  · exact .inl h
  · exact .inr (by simpa using h)
theorem pick_spec {n : Cn} {l : List Chg} {o : Option Chg} (h : IsB n l o) (g : Chg) : IsB n (l ++ [g]) (pickG n o g) := by
  unfold pickG
  by_cases hg : chkG g = 0 ∧ g.c = n
  · rw [if_pos hg]
    cases o with
    | none =>
      refine ⟨by simp, hg.1, hg.2, fun d hd h1 h2 => ?_⟩
      rcases mem_snoc hd with hd | rfl
      · exact absurd h2 (h d hd h1)
      · exact cs_irrefl _
    | some b =>
      obtain ⟨b1, b2, b3, b4⟩ := h
      by_cases hl : cmpS (lineG g) (lineG b) < 0
      · simp only [if_pos hl]
        refine ⟨by simp, hg.1, hg.2, fun d hd h1 h2 => ?_⟩
        rcases mem_snoc hd with hd | rfl
        · exact fun e => b4 d hd h1 h2 (cs_trans e hl)
        · exact cs_irrefl _
      · simp only [if_neg hl]
        refine ⟨by simp [b1], b2, b3, fun d hd h1 h2 => ?_⟩
        rcases mem_snoc hd with hd | rfl
        · exact b4 d hd h1 h2
        · exact hl
  · rw [if_neg hg]
    cases o with
    | none =>
      intro d hd h1
      rcases mem_snoc hd with hd | rfl
      · exact h d hd h1
      · exact fun e => hg ⟨h1, e⟩
    | some b =>
      obtain ⟨b1, b2, b3, b4⟩ := h
      refine ⟨by simp [b1], b2, b3, fun d hd h1 h2 => ?_⟩
      rcases mem_snoc hd with hd | rfl
      · exact b4 d hd h1 h2
      · exact absurd ⟨h1, h2⟩ hg
theorem best_snoc (l : List Chg) (g : Chg) (n : Cn) : bestG (l ++ [g]) n = pickG n (bestG l n) g := by unfold bestG; rw [List.foldl_append]; rfl
theorem best_spec (n : Cn) (l : List Chg) : IsB n l (bestG l n) := by
  have key : ∀ (m l : List Chg) (o : Option Chg), IsB n l o → IsB n (l ++ m) (m.foldl (pickG n) o) := by
    intro m
    induction m with
    | nil => intro l o h; rw [List.append_nil]; exact h
    | cons c m ih =>
      intro l o h
      have := ih (l ++ [c]) (pickG n o c) (pick_spec h c)
      rw [List.append_assoc] at this
      exact this
  have h0 : IsB n [] none := fun d hd => by cases hd
  exact key l [] none h0
theorem best_mem {l : List Chg} {n : Cn} {g : Chg} (h : bestG l n = some g) : g ∈ l ∧ chkG g = 0 ∧ g.c = n ∧ ∀ d ∈ l, chkG d = 0 → d.c = n → ¬ cmpS (lineG d) (lineG g) < 0 := by
  have := best_spec n l
  rw [h] at this
  exact this
/-! ### the union -/
def AscG (l : List Chg) : Prop := l.Pairwise fun a b => ltC a.c b.c
/-- the list of the records kept of l -/
structure Mrg (l m : List Chg) : Prop where
  asc : AscG m
  mem : ∀ g, g ∈ m ↔ bestG l g.c = some g
theorem ascG_ext : ∀ {a b : List Chg}, AscG a → AscG b → (∀ g, g ∈ a ↔ g ∈ b) → a = b
  | [], [], _, _, _ => rfl
  | [], b :: m, _, _, h => absurd ((h b).2 (by simp)) (by simp)
  | a :: l, [], _, _, h => absurd ((h a).1 (by simp)) (by simp)
  | a :: l, b :: m, hl, hm, h => by
    have la := List.pairwise_cons.1 hl
    have lb := List.pairwise_cons.1 hm
    have e : a = b := by
      rcases List.mem_cons.1 ((h b).2 (by simp)) with e | hb
      · exact e.symm
      · rcases List.mem_cons.1 ((h a).1 (by simp)) with e | ha
        · exact e
        · exact absurd (lb.1 a ha) (ltC_asymm (la.1 b hb))
    subst e
    have : l = m := ascG_ext la.2 lb.2 fun c => by
      constructor
      · intro hc
        rcases List.mem_cons.1 ((h c).1 (by simp [hc])) with e | k
        · have := la.1 c hc; rw [e] at this; exact absurd this (ltC_irr _)
        · exact k
      · intro hc
        rcases List.mem_cons.1 ((h c).2 (by simp [hc])) with e | k
        · have := lb.1 c hc; rw [e] at this; exact absurd this (ltC_irr _)
        · exact k
    rw [this]
theorem Mrg.uniq {l k a b : List Chg} (h : Mrg l a) (h' : Mrg k b) (hs : ∀ n, bestG l n = bestG k n) : a = b :=
  ascG_ext h.asc h'.asc fun g => by rw [h.mem, h'.mem, hs]
def insG : List Chg → Chg → List Chg
  | [], g => [g]
  | x :: r, g => if ltC g.c x.c then g :: x :: r else if x.c = g.c then (if cmpS (lineG g) (lineG x) < 0 then g else x) :: r else x :: insG r g
def addG (l : List Chg) (g : Chg) : List Chg := if chkG g = 0 then insG l g else l
def mergeG (a b : List Chg) : List Chg := (a ++ b).foldl addG []
theorem insG_low {x : Cn} {g : Chg} : ∀ {l : List Chg}, (∀ d ∈ l, ltC x d.c) → ltC x g.c → ∀ d ∈ insG l g, ltC x d.c
  | [], _, hg, d, hd => by
    have : d = g := by simpa [insG] using hd
    rw [this]; exact hg
  | y :: r, h, hg, d, hd => by
    unfold insG at hd
    split at hd
    · rcases List.mem_cons.1 hd with e | hd
      · rw [e]; exact hg
      · exact h d hd
    · split at hd
      · rcases List.mem_cons.1 hd with e | hd
        · split at e
          · rw [e]; exact hg
          · rw [e]; exact h y (by simp)
        · exact h d (by simp [hd])
      · rcases List.mem_cons.1 hd with e | hd
        · rw [e]; exact h y (by simp)
        · exact insG_low (fun z hz => h z (by simp [hz])) hg d hd
theorem insG_asc {g : Chg} : ∀ {l : List Chg}, AscG l → AscG (insG l g)
  | [], _ => List.pairwise_singleton _ _
  | y :: r, h => by
    obtain ⟨h1, h2⟩ := List.pairwise_cons.1 h
    unfold insG
    by_cases k1 : ltC g.c y.c
    · rw [if_pos k1]
      refine List.pairwise_cons.2 ⟨fun d hd => ?_, h⟩
      rcases List.mem_cons.1 hd with e | hd
      · rw [e]; exact k1
      · exact ltC_trans k1 (h1 d hd)
    · rw [if_neg k1]
      by_cases k2 : y.c = g.c
      · rw [if_pos k2]
        refine List.pairwise_cons.2 ⟨fun d hd => ?_, h2⟩
        split
        · rw [← k2]; exact h1 d hd
        · exact h1 d hd
      · rw [if_neg k2]
        have k3 : ltC y.c g.c := Decidable.byContradiction fun k3 => k2 (ltC_tri k3 k1)
        exact List.pairwise_cons.2 ⟨insG_low h1 k3, insG_asc h2⟩
theorem insG_mem {g d : Chg} : ∀ {l : List Chg}, AscG l → (d ∈ insG l g ↔ (d ∈ l ∧ d.c ≠ g.c) ∨ (d = g ∧ ∀ x ∈ l, x.c = g.c → cmpS (lineG g) (lineG x) < 0) ∨ (d ∈ l ∧ d.c = g.c ∧ ¬ cmpS (lineG g) (lineG d) < 0))
  | [], _ => by simp [insG]
  | y :: r, h => by
    obtain ⟨h1, h2⟩ := List.pairwise_cons.1 h
    have ih := @insG_mem g d r h2
    unfold insG
    by_cases k1 : ltC g.c y.c
    · rw [if_pos k1]
      have hne : ∀ x ∈ y :: r, x.c ≠ g.c := fun x hx e => by
        rcases List.mem_cons.1 hx with e2 | hx
        · subst e2; rw [e] at k1; exact ltC_irr _ k1
        · have := ltC_trans k1 (h1 x hx); rw [e] at this; exact ltC_irr _ this
      constructor
      · intro hd
        rcases List.mem_cons.1 hd with e | hd
        · exact .inr (.inl ⟨e, fun x hx e2 => absurd e2 (hne x hx)⟩)
        · exact .inl ⟨hd, hne d hd⟩
      · rintro (⟨hd, _⟩ | ⟨e, _⟩ | ⟨hd, e, _⟩)
        · exact List.mem_cons_of_mem _ hd
        · rw [e]; simp
        · exact List.mem_cons_of_mem _ hd
    · rw [if_neg k1]
      by_cases k2 : y.c = g.c
      · rw [if_pos k2]
        have hne : ∀ x ∈ r, x.c ≠ g.c := fun x hx e => by have := h1 x hx; rw [e, k2] at this; exact ltC_irr _ this
        by_cases k3 : cmpS (lineG g) (lineG y) < 0
        · rw [if_pos k3]
          constructor
          · intro hd
            rcases List.mem_cons.1 hd with e | hd
            · refine .inr (.inl ⟨e, fun x hx e2 => ?_⟩)
              rcases List.mem_cons.1 hx with e3 | hx
              · rw [e3]; exact k3
              · exact absurd e2 (hne x hx)
            · exact .inl ⟨List.mem_cons_of_mem _ hd, hne d hd⟩
          · rintro (⟨hd, e⟩ | ⟨e, _⟩ | ⟨hd, e, k⟩)
            · rcases List.mem_cons.1 hd with e2 | hd
              · rw [e2] at e; exact absurd k2 e
              · exact List.mem_cons_of_mem _ hd
            · rw [e]; simp
            · rcases List.mem_cons.1 hd with e2 | hd
              · rw [e2] at k; exact absurd k3 k
              · exact absurd e (hne d hd)
        · rw [if_neg k3]
          constructor
          · intro hd
            rcases List.mem_cons.1 hd with e | hd
            · rw [e]; exact .inr (.inr ⟨by simp, k2, k3⟩)
            · exact .inl ⟨List.mem_cons_of_mem _ hd, hne d hd⟩
          · rintro (⟨hd, e⟩ | ⟨e, k⟩ | ⟨hd, e, k⟩)
            · exact hd
            · exact absurd (k y (by simp) k2) k3
            · exact hd
      · rw [if_neg k2, List.mem_cons, ih]
        constructor
        · rintro (e | ⟨hd, e⟩ | ⟨e, k⟩ | ⟨hd, e, k⟩)
          · rw [e]; exact .inl ⟨by simp, k2⟩
          · exact .inl ⟨List.mem_cons_of_mem _ hd, e⟩
          · refine .inr (.inl ⟨e, fun x hx e2 => ?_⟩)
            rcases List.mem_cons.1 hx with e3 | hx
            · rw [e3] at e2; exact absurd e2 k2
            · exact k x hx e2
          · exact .inr (.inr ⟨List.mem_cons_of_mem _ hd, e, k⟩)
        · rintro (⟨hd, e⟩ | ⟨e, k⟩ | ⟨hd, e, k⟩)
          · rcases List.mem_cons.1 hd with e2 | hd
            · exact .inl e2
            · exact .inr (.inl ⟨hd, e⟩)
          · exact .inr (.inr (.inl ⟨e, fun x hx => k x (by simp [hx])⟩))
          · rcases List.mem_cons.1 hd with e2 | hd
            · exact .inl e2
            · exact .inr (.inr (.inr ⟨hd, e, k⟩))
theorem add_mrg {l m : List Chg} (h : Mrg l m) (g : Chg) : Mrg (l ++ [g]) (addG m g) := by
  unfold addG
  by_cases hg : chkG g = 0
  · rw [if_pos hg]
    refine ⟨insG_asc h.asc, fun d => ?_⟩
    rw [insG_mem h.asc, best_snoc]
    unfold pickG
    by_cases e : g.c = d.c
    · rw [if_pos ⟨hg, e⟩]
      cases hb : bestG l d.c with
      | none =>
        constructor
        · rintro (⟨hd, k⟩ | ⟨k, _⟩ | ⟨hd, _, _⟩)
          · exact absurd e.symm k
          · rw [k]
          · have := (h.mem d).1 hd; rw [hb] at this; cases this
        · intro k
          cases k
          exact .inr (.inl ⟨rfl, fun x hx e2 => by have := (h.mem x).1 hx; rw [e2, hb] at this; cases this⟩)
      | some b =>
        have hbm := best_mem hb
        have hbin : b ∈ m := (h.mem b).2 (by rw [hbm.2.2.1]; exact hb)
        by_cases hl : cmpS (lineG g) (lineG b) < 0
        · simp only [if_pos hl]
          constructor
          · rintro (⟨hd, k⟩ | ⟨k, _⟩ | ⟨hd, _, k⟩)
            · exact absurd e.symm k
            · rw [k]
            · have := (h.mem d).1 hd; rw [hb] at this; cases this; exact absurd hl k
          · intro k
            cases k
            exact .inr (.inl ⟨rfl, fun x hx e2 => by have := (h.mem x).1 hx; rw [e2, hb] at this; cases this; exact hl⟩)
        · simp only [if_neg hl]
          constructor
          · rintro (⟨hd, k⟩ | ⟨k, k2⟩ | ⟨hd, _, k⟩)
            · exact absurd e.symm k
            · exact absurd (k2 b hbin (by rw [hbm.2.2.1, e])) hl
            · have := (h.mem d).1 hd; rw [hb] at this; exact this
          · intro k
            cases k
            exact .inr (.inr ⟨hbin, e.symm, hl⟩)
    · rw [if_neg (fun k => e k.2)]
      constructor
      · rintro (⟨hd, k⟩ | ⟨k, _⟩ | ⟨hd, k, _⟩)
        · exact (h.mem d).1 hd
        · rw [k] at e; exact absurd rfl e
        · exact absurd k.symm e
      · intro k
        exact .inl ⟨(h.mem d).2 k, fun x => e x.symm⟩
  · rw [if_neg hg]
    refine ⟨h.asc, fun d => ?_⟩
    rw [best_snoc]
    unfold pickG
    rw [if_neg (fun k => hg k.1)]
    exact h.mem d
theorem mrg_nil : Mrg [] [] := ⟨List.Pairwise.nil, fun g => ⟨fun h => (by cases h), fun h => (by cases h)⟩⟩
theorem mrg_fold (l : List Chg) : Mrg l (l.foldl addG []) := by
  have key : ∀ (m l o : List Chg), Mrg l o → Mrg (l ++ m) (m.foldl addG o) := by
    intro m
    induction m with
    | nil => intro l o h; rw [List.append_nil]; exact h
    | cons c m ih =>
      intro l o h
      have := ih (l ++ [c]) (addG o c) (add_mrg h c)
      rw [List.append_assoc] at this
      exact this
  exact key l [] [] mrg_nil
theorem mrg_merge (a b : List Chg) : Mrg (a ++ b) (mergeG a b) := mrg_fold _
/-- what is sorted out of the records kept is the union -/
theorem merge_of {a b m : List Chg} (h1 : AscG m) (h2 : ∀ g, g ∈ m ↔ bestG (a ++ b) g.c = some g) : m = mergeG a b := Mrg.uniq ⟨h1, h2⟩ (mrg_merge a b) fun _ => rfl
/-! ### vectors -/
def sinceG (l : List Chg) (v : List Cn) : List Chg := l.filter fun g => !covC v g.c
def numsG (l : List Chg) : List Cn := (l.map (·.c)).filter vldC
def vecG (l : List Chg) : List Cn := lstC (numsG l)
theorem nums_vld (l : List Chg) : ∀ c ∈ numsG l, Vld c := fun c hc => (Csn.vldC_iff c).1 (List.mem_filter.1 hc).2
theorem vecG_vec (l : List Chg) : VecC (vecG l) := lst_vec (nums_vld l)
theorem nums_snoc (l : List Chg) (g : Chg) : numsG (l ++ [g]) = numsG l ++ (if vldC g.c = true then [g.c] else []) := by
  unfold numsG
  rw [List.map_append, List.filter_append]
  cases e : vldC g.c <;> simp [e]
theorem vecG_snoc (l : List Chg) (g : Chg) : vecG (l ++ [g]) = noteC (vecG l) g.c := by
  rw [Csn.note_is, vecO_self (vecG_vec l)]
  unfold vecG
  rw [nums_snoc]
  by_cases hv : Vld g.c
  · rw [if_pos hv, if_pos ((Csn.vldC_iff _).2 hv), lst_lst (nums_vld l)]
  · have : vldC g.c ≠ true := fun e => hv ((Csn.vldC_iff _).1 e)
    rw [if_neg hv, if_neg this, List.append_nil]
/-! ### texts -/
def firstG : List Chg → Int
  | [] => 0
  | g :: r => if chkG g ≠ 0 then chkG g else firstG r
def txE (l : List Chg) : Int := if 4096 < l.length then 3 else firstG l
def linesG (l : List Chg) : List UInt8 := l.flatMap fun g => (lineG g).data.toList ++ [10]
def txV (l : List Chg) : ByteArray := if txE l = 0 then ⟨(linesG l).toArray⟩ else nilS
def readN : Nat → ByteArray → List Chg → List Chg × Int × Int
  | 0, _, out => (out, 0, 0)
  | k + 1, s, out => if s.size = 0 then (out, 0, 0) else if 4096 ≤ out.length then ([], (out.length : Int) + 1, 3) else if cutOk s ⟨#[10]⟩ = false then ([], (out.length : Int) + 1, 31)
      else match parG (cutBef s ⟨#[10]⟩) with
        | none => ([], (out.length : Int) + 1, 4)
        | some g => readN k (cutAft s ⟨#[10]⟩) (out ++ [g])
def rdG (s : ByteArray) : List Chg × Int × Int := readN s.size s []
end Go.Proofs.YtbkignlbcneddaaGreatDoor
end

section
/-
  Change records as they lie in memory: a box, a slice that is read, a slice of the call's own that grows. Condition: at most 1000000000 records.
-/
set_option maxRecDepth 100000
namespace Go.Proofs.YtbkignlbcneddaaGreatDoor
open Go.RowKit Go.PlainAid
open Csn (Cn cnV KbC CnsAt info_cparts box_below box_lt)
def gcells (g : Chg) : List Value := [.int .i64 g.c.1, .int .i64 g.c.2.1, .int .i64 g.c.2.2, .int .i64 g.op, .string g.id, .string g.nm, .string g.ak, .string g.vl]
def chV (g : Chg) : Value := .agg (gcells g).toArray
def chB (g : Chg) : Obj := .cells (gcells g).toArray 26
def gA (l : List Chg) (j : Nat) : Chg := l.getD j zeroG
theorem g_get {l : List Chg} {j : Nat} (h : j < l.length) : gA l j = l[j] := by unfold gA; rw [List.getD_eq_getElem?_getD, List.getElem?_eq_getElem h]; rfl
theorem g_mem {l : List Chg} {j : Nat} (h : j < l.length) : gA l j ∈ l := by rw [g_get h]; exact List.getElem_mem h
theorem take_g (l : List Chg) (k : Nat) (h : k < l.length) : l.take (k + 1) = l.take k ++ [gA l k] := by
  rw [List.take_add_one, List.getElem?_eq_getElem h, g_get h]; rfl
theorem gs_ext {ps qs : List Chg} (hl : ps.length = qs.length) (h : ∀ j, j < ps.length → gA ps j = gA qs j) : ps = qs := by
  apply List.ext_getElem hl
  intro j h1 h2
  have := h j h1
  rwa [g_get h1, g_get h2] at this
/-- a slice's records, as they lie in memory -/
def IsChs (w : World) (b off : Nat) (ps : List Chg) : Prop :=
  b < w.heap.size ∧ ∀ j, j < ps.length → ∀ k, k < 8 → w.cell? ⟨b, off + j * 8 + k, none⟩ = (gcells (gA ps j))[k]?
theorem IsChs.below {w w' : World} {b off : Nat} {ps : List Chg} (h : IsChs w b off ps) {B : Nat} (hb : Below B w w') (hB : b < B) : IsChs w' b off ps :=
  ⟨Nat.lt_of_lt_of_le h.1 hb.size, fun j hj k hk => by rw [hb.cell (p := ⟨b, off + j * 8 + k, none⟩) hB]; exact h.2 j hj k hk⟩
/-- the eight cells of a record -/
structure At8 (w : World) (b o : Nat) (g : Chg) : Prop where
  c0 : w.cell? ⟨b, o, none⟩ = some (.int .i64 g.c.1)
  c1 : w.cell? ⟨b, o + 1, none⟩ = some (.int .i64 g.c.2.1)
  c2 : w.cell? ⟨b, o + 2, none⟩ = some (.int .i64 g.c.2.2)
  c3 : w.cell? ⟨b, o + 3, none⟩ = some (.int .i64 g.op)
  c4 : w.cell? ⟨b, o + 4, none⟩ = some (.string g.id)
  c5 : w.cell? ⟨b, o + 5, none⟩ = some (.string g.nm)
  c6 : w.cell? ⟨b, o + 6, none⟩ = some (.string g.ak)
  c7 : w.cell? ⟨b, o + 7, none⟩ = some (.string g.vl)
theorem IsChs.at8 {w : World} {b off : Nat} {ps : List Chg} (h : IsChs w b off ps) {j : Nat} (hj : j < ps.length) : At8 w b (off + j * 8) (gA ps j) :=
  ⟨h.2 j hj 0 (by omega), h.2 j hj 1 (by omega), h.2 j hj 2 (by omega), h.2 j hj 3 (by omega), h.2 j hj 4 (by omega), h.2 j hj 5 (by omega), h.2 j hj 6 (by omega), h.2 j hj 7 (by omega)⟩
theorem At8.below {w w' : World} {b o : Nat} {g : Chg} (h : At8 w b o g) {B : Nat} (hb : Below B w w') (hB : b < B) : At8 w' b o g :=
  ⟨(hb.cell (p := ⟨b, o, none⟩) hB).trans h.c0, (hb.cell (p := ⟨b, o + 1, none⟩) hB).trans h.c1, (hb.cell (p := ⟨b, o + 2, none⟩) hB).trans h.c2, (hb.cell (p := ⟨b, o + 3, none⟩) hB).trans h.c3,
    (hb.cell (p := ⟨b, o + 4, none⟩) hB).trans h.c4, (hb.cell (p := ⟨b, o + 5, none⟩) hB).trans h.c5, (hb.cell (p := ⟨b, o + 6, none⟩) hB).trans h.c6, (hb.cell (p := ⟨b, o + 7, none⟩) hB).trans h.c7⟩
/-- a box that holds a record -/
theorem at8_box {W : World} {b : Nat} {g : Chg} (h : KbC W b (chB g)) : At8 W b 0 g :=
  ⟨h.cell rfl, h.cell rfl, h.cell rfl, h.cell rfl, h.cell rfl, h.cell rfl, h.cell rfl, h.cell rfl⟩
def ChsAt (w : World) (ao : Option Addr) (n cap : Nat) (ps : List Chg) : Prop :=
  ps.length = n ∧ n ≤ cap ∧ cap ≤ maxLen ∧ (0 < n → ∃ b off, ao = some ⟨b, off, none⟩ ∧ IsChs w b off ps) ∧ (ao = none → cap = 0)
theorem ChsAt.below {w w' : World} {ao : Option Addr} {n cap : Nat} {ps : List Chg} (h : ChsAt w ao n cap ps) (hb : Below w.heap.size w w') : ChsAt w' ao n cap ps :=
  ⟨h.1, h.2.1, h.2.2.1, fun hn => by
    obtain ⟨b, off, e, hi⟩ := h.2.2.2.1 hn
    exact ⟨b, off, e, hi.below hb hi.1⟩, h.2.2.2.2⟩
theorem chs_nil (w : World) : ChsAt w none 0 0 [] := ⟨rfl, Nat.le_refl _, by unfold maxLen; omega, fun h => absurd h (Nat.lt_irrefl _), fun _ => rfl⟩
/-- the cells of records -/
def chcells (l : List Chg) : List Value := l.flatMap gcells
theorem gcells_len (g : Chg) : (gcells g).length = 8 := rfl
theorem chcells_app (l m : List Chg) : chcells (l ++ m) = chcells l ++ chcells m := by simp [chcells]
theorem chcells_len : ∀ l : List Chg, (chcells l).length = l.length * 8
  | [] => rfl
  | p :: l => by
    have h := chcells_len l
    have e : chcells (p :: l) = gcells p ++ chcells l := rfl
    rw [e, List.length_append, h, gcells_len, List.length_cons]; omega
theorem chcells_at : ∀ (l : List Chg) (j k : Nat), j < l.length → k < 8 → (chcells l)[j * 8 + k]? = (gcells (gA l j))[k]?
  | [], j, k, h, _ => absurd h (Nat.not_lt_zero _)
  | p :: l, 0, k, h, hk => by
    have e : chcells (p :: l) = gcells p ++ chcells l := rfl
    rw [e, Nat.zero_mul, Nat.zero_add, List.getElem?_append_left (by rw [gcells_len]; exact hk)]; rfl
  | p :: l, j + 1, k, h, hk => by
    have := chcells_at l j k (by simpa using h) hk
    have e : chcells (p :: l) = gcells p ++ chcells l := rfl
    rw [e, List.getElem?_append_right (by rw [gcells_len]; omega), gcells_len, show (j + 1) * 8 + k - 8 = j * 8 + k by omega, this]; rfl
theorem chcells_one (l : List Chg) : ∀ u ∈ chcells l, u.oneCell' = true := by
  intro u hu
  obtain ⟨p, _, hp⟩ := List.mem_flatMap.1 hu
  simp [gcells] at hp
  rcases hp with rfl | rfl | rfl | rfl | rfl | rfl | rfl | rfl <;> rfl
theorem info_ch : (Tryz.prog.info? 26).map (fun i => (i.zero, i.size, i.bytes)) = some (some (.agg #[.int .i64 0, .int .i64 0, .int .i64 0, .int .i64 0, .string ⟨#[]⟩, .string ⟨#[]⟩, .string ⟨#[]⟩, .string ⟨#[]⟩]), 8, 96) := by kernel_rfl
theorem chs_cells {w : World} {b off : Nat} {ps : List Chg} (h : IsChs w b off ps) : ∀ j u, (chcells ps)[j]? = some u → w.cell? ((⟨b, off, none⟩ : Addr).add j) = some u := by
  intro j u hj
  rw [WideShapes.add_plain]
  have hl : j < (chcells ps).length := by
    rcases Nat.lt_or_ge j (chcells ps).length with k | k
    · exact k
    · rw [List.getElem?_eq_none k] at hj; cases hj
  rw [chcells_len] at hl
  have hk := chcells_at ps (j / 8) (j % 8) (by omega) (by omega)
  have hc := h.2 (j / 8) (by omega) (j % 8) (by omega)
  rw [show j / 8 * 8 + j % 8 = j by omega] at hk
  rw [show off + j / 8 * 8 + j % 8 = off + j by omega, ← hk] at hc
  rw [hc]; exact hj
/-- 'l = append(l, gs...)' where l is the call's own -/
theorem app_chs {ops : Array Oper} {rest : List Oper} {o : Oper} {a : Act} {Q : Exit → Act → World → Prop} (wr : World) {base : Nat} {v : Value} {n : Nat} {xs : List Value} (hown : wr.ownsRow base 26 8 v n xs) (s x : Operand)
    (ao : Option Addr) (m c : Nat) (news : List Chg) (hgd : o.guard = none)
    (ho : o.op = .call { callee := .builtin .append, args := #[s, x], argTypes := #[28, 28] })
    (hs : a.eval s = v) (hx : a.eval x = .slice ao m c) (hw : ChsAt wr ao m c news) (hn : n + m ≤ 1000000000) (hbase : base ≤ wr.heap.size)
    (h : ∀ v' w', w'.ownsRow base 26 8 v' (n + m) (xs ++ chcells news) → Below base wr w' → wpList Tryz.prog ops Q rest (a.put o.dst v') w') :
    wpList Tryz.prog ops Q (o :: rest) a wr := by
  obtain ⟨i0, hi, hz0, hz1, hz2⟩ := info_cparts info_ch
  obtain ⟨w1, w2, w3, w4, w5⟩ := hw
  cases ao with
  | none =>
    have hc := w5 rfl
    subst hc
    have hm : m = 0 := by omega
    subst hm
    have hnil : news = [] := List.length_eq_zero_iff.1 w1
    subst hnil
    refine wpList_append_own_none hgd s x 28 ho base 26 i0 8 Tryz.underlying28 hi v n xs hs hown hx ?_
    have := h v wr (by rw [show chcells [] = [] from rfl, List.append_nil]; exact hown) (Below.refl _ _)
    exact this
  | some ad =>
    have hnews : ∀ j u, (chcells news)[j]? = some u → wr.cell? (ad.add j) = some u := by
      rcases Nat.eq_zero_or_pos m with e | e
      · have hnil : news = [] := List.length_eq_zero_iff.1 (by omega)
        subst hnil
        intro j u hj; simp [chcells] at hj
      · obtain ⟨b, off, e2, hi2⟩ := w4 e
        cases e2
        exact chs_cells hi2
    refine wpList_append_own _ hgd s x 28 ho base 26 i0 (.agg #[.int .i64 0, .int .i64 0, .int .i64 0, .int .i64 0, .string ⟨#[]⟩, .string ⟨#[]⟩, .string ⟨#[]⟩, .string ⟨#[]⟩]) 8 96 Tryz.underlying28 hi hz0 hz1 hz2 rfl (by decide) v n xs hs hown ad m c (chcells news) hx (by rw [chcells_len, w1]) hnews
      (chcells_one _) (by unfold maxLen; omega) (by omega) hbase ?_
    intro v' w' h1 h2 _
    exact h v' w' h1 ((Below.refl base wr).grown h2 hbase (fun k hk => (hown.lt k hk).1))
theorem chs_of_owns {w : World} {base : Nat} {v : Value} {n : Nat} {ps : List Chg} (h : w.ownsRow base 26 8 v n (chcells ps)) : ∃ ao cap, v = .slice ao n cap ∧ ChsAt w ao n cap ps := by
  have h0 := h
  obtain ⟨hl, ⟨rfl, hz⟩ | ⟨g, cap, cur, rfl, h2, h3, h4, h5, h6⟩⟩ := h
  · rw [chcells_len] at hl
    have hn : ps.length = n := by omega
    subst hz
    exact ⟨none, 0, rfl, hn, Nat.le_refl _, by unfold maxLen; omega, fun h => absurd h (Nat.lt_irrefl _), fun _ => rfl⟩
  · rw [chcells_len] at hl
    have hlen : ps.length = n := by omega
    refine ⟨some ⟨g, 0, none⟩, cap, rfl, hlen, h4, h5, fun _ => ⟨g, 0, rfl, (Array.getElem?_eq_some_iff.1 h3).1, fun j hj k hk => ?_⟩, fun e => (by cases e)⟩
    have hk2 := chcells_at ps j k hj hk
    obtain ⟨u, hu⟩ : ∃ u, (gcells (gA ps j))[k]? = some u := ⟨(gcells (gA ps j))[k]'(by rw [gcells_len]; exact hk), List.getElem?_eq_getElem _⟩
    rw [hu] at hk2 ⊢
    have := h0.cells rfl _ _ hk2
    rw [WideShapes.add_plain] at this
    rw [show 0 + j * 8 + k = 0 + (j * 8 + k) by omega]; exact this
theorem ChsAt.empty {w : World} {ao : Option Addr} {cap : Nat} {ps : List Chg} (h : ChsAt w ao 0 cap ps) : ps = [] := List.length_eq_zero_iff.1 h.1
end Go.Proofs.YtbkignlbcneddaaGreatDoor
end

section
/-
  Contracts of slices.Grow and slices.Concat at change records. Condition: at most 400000 records in each slice.
-/
set_option maxRecDepth 100000
namespace Go.Proofs.YtbkignlbcneddaaGreatDoor
open Go.RowKit Go.PlainAid
open Csn (KbC kbc_new box_below info_cparts)
theorem zeroG_size (k : Nat) : (Builtin.zeroCells (Value.agg #[.int .i64 0, .int .i64 0, .int .i64 0, .int .i64 0, .string ⟨#[]⟩, .string ⟨#[]⟩, .string ⟨#[]⟩, .string ⟨#[]⟩]).cells k).size = k * 8 := by
  simp [Builtin.zeroCells, Value.cells]
theorem growG_run (w : World) (n : Nat) (h0 : 0 < n) (hn : n ≤ 1000000) : ∃ G W1, (∀ ty, (Builtin.append_ #[28, 3] ty #[.slice none 0 0, .int .i64 (n : Int)]).run Tryz.prog w = .ok (.slice (some ⟨w.heap.size, 0, none⟩) n G) W1) ∧
    n ≤ G ∧ G ≤ maxLen ∧ W1.ownsRow w.heap.size 26 8 (.slice (some ⟨w.heap.size, 0, none⟩) 0 G) 0 [] ∧ Below w.heap.size w W1 := by
  obtain ⟨i0, hi0, hz0, hz1, hz2⟩ := info_cparts info_ch
  have hrun := fun ty => Lib.run_append_nil_zeros w 28 3 ty 26 i0 _ .i64 .i64 Tryz.underlying28 Tryz.underlying3 hi0 hz0 n h0 (by rw [hz1]; decide) (by omega) (by rw [hz2]; omega)
  refine ⟨grownCap w n 0 26, _, hrun, grownCap_ge w _ _ _, grownCap_le_maxLen w _ _ _ (by unfold maxLen; omega), ?_, ((Below.refl _ w).drew).alloc (Nat.le_refl _) _⟩
  have hg := grownCap_ge w n 0 26
  exact World.ownsRow_made w.drew _ _ (Nat.le_refl _) (grownCap_le_maxLen w _ _ _ (by unfold maxLen; omega)) (by rw [Array.size_append, zeroG_size, zeroG_size]; omega)
set_option maxHeartbeats 4000000 in
theorem growg_s (n : Nat) (w : World) (hn : n ≤ 1000000) :
    Calls Tryz.prog 108 #[.slice none 0 0, .int .i64 n] w fun e w' => ∃ v, e = .returned v ∧ w'.ownsRow w.heap.size 26 8 v 0 [] ∧ Below w.heap.size w w' := by
  rcases Nat.eq_zero_or_pos n with h0 | h0
  · subst h0
    go_enter Tryz.func108, Tryz.ntmps108
    go_wp2
    go_ret
    exact ⟨_, rfl, World.ownsRow_nil _ _ _ _, Below.refl _ _⟩
  · obtain ⟨G, W1, hrun, hG1, hG2, hown, hb⟩ := growG_run w n h0 hn
    unfold maxLen at hG2
    have d0 : (0 : Int) < (n : Int) := by omega
    have d1 : ¬ (n : Int) < 0 := by omega
    have HR := Lib.hid hrun
    clear hrun
    go_enter Tryz.func108, Tryz.ntmps108
    go_wp2_with (at_builtin; refine Lib.wpList_append_run _ rfl _ _ _ _ rfl _ _ rfl rfl _ _ (HR.out _) ?_)
    go_ret
    exact ⟨_, rfl, hown, hb⟩
def twG (ao : Option Addr) (n cap : Nat) (bo : Option Addr) (m dap : Nat) : Obj := .cells #[.slice ao n cap, .slice bo m dap] 28
set_option maxHeartbeats 8000000 in
theorem concatg_s (g : Nat) (ao bo : Option Addr) (n m cap dap : Nat) (l k : List Chg) (w : World) (hg : KbC w g (twG ao n cap bo m dap)) (h : ChsAt w ao n cap l) (hk : ChsAt w bo m dap k) (hn : n ≤ 400000) (hm : m ≤ 400000) :
    Calls Tryz.prog 65 #[.slice (some ⟨g, 0, none⟩) 2 2] w fun e w' => ∃ xo q xc, e = .returned (.slice xo q xc) ∧ ChsAt w' xo q xc (l ++ k) ∧ Below w.heap.size w w' := by
  have H := Lib.hid h
  have HK := Lib.hid hk
  have HG := Lib.hid hg
  clear h hk
  have c0 : w.cell? ⟨g, 0, none⟩ = some (.slice ao n cap) := hg.cell rfl
  have c1 : w.cell? ⟨g, 1, none⟩ = some (.slice bo m dap) := hg.cell rfl
  clear hg
  have e0 : ¬ (n : Int) < 0 := by omega
  have e1 : ¬ (n : Int) + (m : Int) < 0 := by omega
  have HGr := Lib.hid (fun (v : Int) (hv : v = ((n + m : Nat) : Int)) => show Calls Tryz.prog 108 #[.slice none 0 0, .int .i64 v] w _ from hv ▸ growg_s (n + m) w (by omega))
  go_enter Tryz.func65, Tryz.ntmps65
  go_wp2_with fail
  refine wp_loop_rounds 3 ?_
  rw [rounds_succ]
  go_wp2_with fail
  rw [rounds_succ]
  go_wp2_with fail
  rw [rounds_succ]
  go_wp2_with fail
  refine (HGr.out _ (by first | rfl | omega)).mono ?_
  rintro e w1 ⟨v, rfl, hown, hb⟩
  have HB1 := Lib.hid hb
  have HA1 := Lib.hid (H.out.below hb)
  have HK1 := Lib.hid (HK.out.below hb)
  have HG1 := Lib.hid (HG.out.step hb)
  have HO1 := Lib.hid hown
  clear hb hown c0 c1
  have c0 : w1.cell? ⟨g, 0, none⟩ = some (.slice ao n cap) := HG1.out.cell rfl
  have c1 : w1.cell? ⟨g, 1, none⟩ = some (.slice bo m dap) := HG1.out.cell rfl
  go_wp2_with fail
  refine wp_loop_rounds 3 ?_
  rw [rounds_succ]
  go_wp2_with (at_builtin; refine app_chs w1 HO1.out (.tmp 31) (.tmp 32) ao n cap l ?_ ?_ ?_ ?_ ?_ ?_ ?_ ?_; exact rfl; exact rfl; exact rfl; exact rfl; exact HA1.out; omega; exact HB1.out.size; intro v2 w2 hown2 hb2)
  have HB2 := Lib.hid (HB1.out.trans hb2)
  have HO2 := Lib.hid hown2
  have HK2 := Lib.hid (HK.out.below HB2.out)
  have HG2 := Lib.hid (HG.out.step HB2.out)
  clear hb2 hown2 c0 c1
  have c1 : w2.cell? ⟨g, 1, none⟩ = some (.slice bo m dap) := HG2.out.cell rfl
  rw [rounds_succ]
  go_wp2_with (at_builtin; refine app_chs w2 HO2.out (.tmp 31) (.tmp 32) bo m dap k ?_ ?_ ?_ ?_ ?_ ?_ ?_ ?_; exact rfl; exact rfl; exact rfl; exact rfl; exact HK2.out; omega; exact HB2.out.size; intro v3 w3 hown3 hb3)
  have HB3 := Lib.hid (HB2.out.trans hb3)
  rw [List.nil_append, ← chcells_app] at hown3
  obtain ⟨xo, xc, hv3, hat⟩ := chs_of_owns hown3
  rw [hv3]
  have HA3 := Lib.hid hat
  clear hb3 hown3 hat c1 hv3
  rw [rounds_succ]
  go_wp2_with fail
  go_ret
  exact ⟨xo, _, xc, rfl, HA3.out, HB3.out⟩
end Go.Proofs.YtbkignlbcneddaaGreatDoor
end

section
/-
  One record laid into an ascending list by a single pass, as the reference does it, is insG. Nothing of the program stands here. No condition.
-/
set_option maxRecDepth 100000
namespace Go.Proofs.YtbkignlbcneddaaGreatDoor
open Go.PlainAid
open Csn (Cn ltC ltC_irr ltC_asymm)
end Go.Proofs.YtbkignlbcneddaaGreatDoor
end

section
/-
  Contracts of change's fields, hasUnused, isID, and of the specification's unused. Condition: strings of at most 1000000 bytes.
-/
set_option maxRecDepth 100000
namespace Go.Proofs.YtbkignlbcneddaaGreatDoor
open Go.RowKit Go.PlainAid
open Csn (Cn cnV KbC kbc_new box_below box_lt parEC parVC)
/-- a box that holds a record, written out -/
theorem chB_is (t s r op : Int) (i n a v : ByteArray) : chB ⟨(t, s, r), op, i, n, a, v⟩ = .cells #[.int .i64 t, .int .i64 s, .int .i64 r, .int .i64 op, .string i, .string n, .string a, .string v] 26 := rfl
theorem chV_is (t s r op : Int) (i n a v : ByteArray) : chV ⟨(t, s, r), op, i, n, a, v⟩ = .agg #[.int .i64 t, .int .i64 s, .int .i64 r, .int .i64 op, .string i, .string n, .string a, .string v] := rfl
theorem fieldsN_s (b : Nat) (o : Int) (w : World) (h : w.cell? ⟨b, 3, none⟩ = some (.int .i64 o)) (hop : useN o = true) :
    Calls Tryz.prog 88 #[.pointer (some ⟨b, 0, none⟩)] w fun e w' => e = .returned (.slice (some ⟨w.heap.size, 0, none⟩) 1 1) ∧ w' = w.alloc (.cells #[.pointer (some ⟨b, 5, none⟩)] 121) := by
  unfold useN at hop
  simp only [Bool.or_eq_true, decide_eq_true_eq] at hop
  rcases hop with rfl | rfl
  · go_enter Tryz.func88, Tryz.ntmps88
    go_wp2_with fail
    go_ret
    exact ⟨rfl, rfl⟩
  · go_enter Tryz.func88, Tryz.ntmps88
    go_wp2_with fail
    go_ret
    exact ⟨rfl, rfl⟩
theorem fieldsV_s (b : Nat) (o : Int) (w : World) (h : w.cell? ⟨b, 3, none⟩ = some (.int .i64 o)) (hop : useV o = true) :
    Calls Tryz.prog 88 #[.pointer (some ⟨b, 0, none⟩)] w fun e w' => ∃ q, e = .returned (.slice (some ⟨w.heap.size, 0, none⟩) 2 2) ∧ w' = (w.alloc (.cells #[.pointer (some ⟨b, 6, none⟩), .pointer (some ⟨b, 7, none⟩)] 121)).drewN q := by
  unfold useV at hop
  simp only [Bool.or_eq_true, decide_eq_true_eq] at hop
  rcases hop with rfl | rfl
  · go_enter Tryz.func88, Tryz.ntmps88
    go_wp2_with fail
    go_region
    go_wp2_with fail
    go_ret
    exact ⟨1, rfl, rfl⟩
  · go_enter Tryz.func88, Tryz.ntmps88
    go_wp2_with fail
    go_region
    go_wp2_with fail
    go_ret
    exact ⟨1, rfl, rfl⟩
theorem fields0_s (b : Nat) (o : Int) (w : World) (h : w.cell? ⟨b, 3, none⟩ = some (.int .i64 o)) (hN : useN o = false) (hV : useV o = false) :
    Calls Tryz.prog 88 #[.pointer (some ⟨b, 0, none⟩)] w fun e w' => e = .returned (.slice none 0 0) ∧ w' = w := by
  unfold useN at hN
  unfold useV at hV
  simp only [Bool.or_eq_false_iff, decide_eq_false_iff_not] at hN hV
  have e1 : (o == 1) = false := by simpa using hN.1
  have e3 : (o == 3) = false := by simpa using hN.2
  have e4 : (o == 4) = false := by simpa using hV.1
  have e5 : (o == 5) = false := by simpa using hV.2
  clear hN hV
  go_enter Tryz.func88, Tryz.ntmps88
  go_wp2_with fail
  go_ret
  exact ⟨rfl, rfl⟩
theorem isID_s (s : ByteArray) (w : World) (hs : s.size ≤ 1000000) (ho : MaxOk w) :
    Calls Tryz.prog 51 #[.string s] w fun e w' => e = .returned (.bool (idB s)) ∧ Below w.heap.size w w' := by
  obtain ⟨⟨a, b, c⟩, hv⟩ : ∃ x, parVC s.data.toList = x := ⟨_, rfl⟩
  obtain ⟨z, hz⟩ : ∃ x, parEC s.data.toList = x := ⟨_, rfl⟩
  have HC := Lib.hid (Csn.parse_s s w hs ho)
  rw [hv, hz] at HC
  have HI := Lib.hid (show (z == 0) = idB s by unfold idB; rw [hz]; rfl)
  clear hv hz
  go_enter Tryz.func51, Tryz.ntmps51
  go_wp2_with fail
  refine HC.out.mono ?_
  rintro e w1 ⟨rfl, hb⟩
  have HB := Lib.hid (hb.trans (by have := box_below w1 (.cells #[.int .i64 a, .int .i64 b, .int .i64 c] 23); exact this.mono hb.size))
  clear hb HC
  unfold cnV
  dsimp only
  go_wp2_with fail
  go_ret
  exact ⟨by rw [HI.out]; rfl, HB.out⟩
end Go.Proofs.YtbkignlbcneddaaGreatDoor
end

section
/-
  Contracts of change's hasUnused and of the specification's unused. No condition.
-/
set_option maxRecDepth 100000
namespace Go.Proofs.YtbkignlbcneddaaGreatDoor
open Go.RowKit Go.PlainAid
open Csn (Cn cnV KbC kbc_new box_below box_lt parEC parVC)
theorem nil_list : nilS.toList = [] := by rw [Lib.toList_data]; rfl
theorem nil_eq (s : ByteArray) : (s.toList == []) = decide (s = nilS) := by have := str_eq s nilS; rw [nil_list] at this; exact this
theorem nil_ne (s : ByteArray) : (s.toList != []) = decide (s ≠ nilS) := by have := str_ne s nilS; rw [nil_list] at this; exact this
theorem nil_emp (s : ByteArray) : s.toList.isEmpty = decide (s = nilS) := by rw [← nil_eq]; cases s.toList <;> rfl
theorem unused_N {g : Chg} (h : useN g.op = true) : unused g = (decide (g.ak ≠ nilS) || decide (g.vl ≠ nilS)) := by
  unfold unused; rw [h, useNV h]; simp
theorem unused_V {g : Chg} (h : useV g.op = true) : unused g = decide (g.nm ≠ nilS) := by
  have hN : useN g.op = false := by
    cases e : useN g.op
    · rfl
    · have := useNV e; rw [h] at this; cases this
  unfold unused; rw [h, hN]; simp
theorem unused_0 {g : Chg} (h : useN g.op = false) (k : useV g.op = false) : unused g = (decide (g.nm ≠ nilS) || (decide (g.ak ≠ nilS) || decide (g.vl ≠ nilS))) := by
  unfold unused; rw [h, k]; simp
set_option maxHeartbeats 4000000 in
theorem runused_s (g : Chg) (w : World) :
    Calls Tryz.prog 56 #[chV g] w fun e w' => e = .returned (.bool (unused g)) ∧ w' = w.alloc (chB g) := by
  obtain ⟨⟨t, s, r⟩, o, i, n, a, v⟩ := g
  rw [chV_is, chB_is]
  obtain ⟨dn, hdn⟩ : ∃ x, decide (n ≠ nilS) = x := ⟨_, rfl⟩
  obtain ⟨da, hda⟩ : ∃ x, decide (a ≠ nilS) = x := ⟨_, rfl⟩
  obtain ⟨dv, hdv⟩ : ∃ x, decide (v ≠ nilS) = x := ⟨_, rfl⟩
  have fn : n.toList.isEmpty = !dn := (nil_emp n).trans (by rw [← hdn]; simp)
  have fa : a.toList.isEmpty = !da := (nil_emp a).trans (by rw [← hda]; simp)
  have fv : v.toList.isEmpty = !dv := (nil_emp v).trans (by rw [← hdv]; simp)
  cases hN : useN o
  · cases hV : useV o
    · have HU := Lib.hid (unused_0 (g := ⟨(t, s, r), o, i, n, a, v⟩) hN hV)
      dsimp only at HU
      rw [hdn, hda, hdv] at HU
      unfold useN at hN
      unfold useV at hV
      simp only [Bool.or_eq_false_iff, decide_eq_false_iff_not] at hN hV
      have e1 : (o == 1) = false := by simpa using hN.1
      have e3 : (o == 3) = false := by simpa using hN.2
      have e4 : (o == 4) = false := by simpa using hV.1
      have e5 : (o == 5) = false := by simpa using hV.2
      clear hN hV hdn hda hdv
      rw [HU.out]
      cases dn <;> cases da <;> cases dv
      all_goals
        go_enter Tryz.func56, Tryz.ntmps56
        go_wp2_with fail
        go_ret
        exact ⟨rfl, rfl⟩
    · have HU := Lib.hid (unused_V (g := ⟨(t, s, r), o, i, n, a, v⟩) hV)
      dsimp only at HU
      rw [hdn] at HU
      clear hN hdn hda hdv
      unfold useV at hV
      simp only [Bool.or_eq_true, decide_eq_true_eq] at hV
      rw [HU.out]
      rcases hV with rfl | rfl <;> cases dn
      all_goals
        go_enter Tryz.func56, Tryz.ntmps56
        go_wp2_with fail
        go_ret
        exact ⟨rfl, rfl⟩
  · have HU := Lib.hid (unused_N (g := ⟨(t, s, r), o, i, n, a, v⟩) hN)
    dsimp only at HU
    rw [hda, hdv] at HU
    clear hdn hda hdv
    unfold useN at hN
    simp only [Bool.or_eq_true, decide_eq_true_eq] at hN
    rw [HU.out]
    rcases hN with rfl | rfl <;> cases da <;> cases dv
    all_goals
      go_enter Tryz.func56, Tryz.ntmps56
      go_wp2_with fail
      go_ret
      exact ⟨rfl, rfl⟩
theorem kbc_set {W : World} {b : Nat} {g g' : Chg} (k : Nat) (u : Value) (h : KbC W b (chB g)) (e : ((gcells g).set k u) = gcells g') : KbC (W.setCell ⟨b, k, none⟩ u) b (chB g') := by
  have := Csn.KbC.set (i := k) h u
  unfold chB
  rw [← e]
  unfold chB at this
  simpa using this
set_option maxHeartbeats 4000000 in
theorem hasUnused_s (g : Chg) (w : World) :
    Calls Tryz.prog 52 #[chV g] w fun e w' => e = .returned (.bool (unused g)) ∧ Below w.heap.size w w' := by
  obtain ⟨⟨t, s, r⟩, o, i, n, a, v⟩ := g
  rw [chV_is]
  obtain ⟨dn, hdn⟩ : ∃ x, decide (n ≠ nilS) = x := ⟨_, rfl⟩
  obtain ⟨da, hda⟩ : ∃ x, decide (a ≠ nilS) = x := ⟨_, rfl⟩
  obtain ⟨dv, hdv⟩ : ∃ x, decide (v ≠ nilS) = x := ⟨_, rfl⟩
  have fn : (n.toList == []) = !dn := (nil_eq n).trans (by rw [← hdn]; simp)
  have fa : (a.toList == []) = !da := (nil_eq a).trans (by rw [← hda]; simp)
  have fv : (v.toList == []) = !dv := (nil_eq v).trans (by rw [← hdv]; simp)
  have HB0 := Lib.hid (box_below w (chB ⟨(t, s, r), o, i, n, a, v⟩))
  have HK0 := Lib.hid (kbc_new w (chB ⟨(t, s, r), o, i, n, a, v⟩))
  rw [chB_is] at HB0 HK0
  go_enter Tryz.func52, Tryz.ntmps52
  go_wp2_with fail
  generalize w.alloc (.cells #[.int .i64 t, .int .i64 s, .int .i64 r, .int .i64 o, .string i, .string n, .string a, .string v] 26) = W0 at HB0 HK0 ⊢
  have HA0 := Lib.hid (show KbC W0 w.heap.size (chB ⟨(t, s, r), o, i, n, a, v⟩) from HK0.out)
  have HL := Lib.hid (Csn.KbC.big HA0.out)
  cases hN : useN o
  · cases hV : useV o
    · have HU := Lib.hid (unused_0 (g := ⟨(t, s, r), o, i, n, a, v⟩) hN hV)
      dsimp only at HU
      rw [hdn, hda, hdv] at HU
      clear hdn hda hdv
      refine (fields0_s _ o W0 (at8_box HA0.out).c3 hN hV).mono ?_
      rintro e w1 ⟨rfl, rfl⟩
      obtain ⟨c0, c1, c2, c3, c4, c5, c6, c7⟩ := at8_box HA0.out
      clear hN hV
      cases dn <;> cases da <;> cases dv
      all_goals
        go_wp2_with fail
        refine wp_loop_rounds 1 ?_
        rw [rounds_succ]
        go_wp2_with fail
        go_ret
        exact ⟨by rw [HU.out]; rfl, HB0.out⟩
    · have HU := Lib.hid (unused_V (g := ⟨(t, s, r), o, i, n, a, v⟩) hV)
      dsimp only at HU
      rw [hdn] at HU
      clear hdn hda hdv
      refine (fieldsV_s _ o W0 (at8_box HA0.out).c3 hV).mono ?_
      rintro e w1 ⟨q, rfl, rfl⟩
      have HP1 := Lib.hid (show KbC ((W0.alloc (.cells #[.pointer (some ⟨w.heap.size, 6, none⟩), .pointer (some ⟨w.heap.size, 7, none⟩)] 121)).drewN q) W0.heap.size (.cells #[.pointer (some ⟨w.heap.size, 6, none⟩), .pointer (some ⟨w.heap.size, 7, none⟩)] 121) from kbc_new W0 _)
      have hbx := (box_below W0 (.cells #[.pointer (some ⟨w.heap.size, 6, none⟩), .pointer (some ⟨w.heap.size, 7, none⟩)] 121))
      have HA1 := Lib.hid (show KbC ((W0.alloc (.cells #[.pointer (some ⟨w.heap.size, 6, none⟩), .pointer (some ⟨w.heap.size, 7, none⟩)] 121)).drewN q) w.heap.size (chB ⟨(t, s, r), o, i, n, a, v⟩) from Csn.KbC.step HA0.out (hbx.trans ⟨rfl, rfl, rfl, Nat.le_refl _, fun _ _ => rfl⟩))
      have HB1 := Lib.hid (show Below w.heap.size w ((W0.alloc (.cells #[.pointer (some ⟨w.heap.size, 6, none⟩), .pointer (some ⟨w.heap.size, 7, none⟩)] 121)).drewN q) from (HB0.out.trans (hbx.mono HB0.out.size)).trans ⟨rfl, rfl, rfl, Nat.le_refl _, fun _ _ => rfl⟩)
      clear hbx hN hV HA0 HK0
      generalize (W0.alloc (.cells #[.pointer (some ⟨w.heap.size, 6, none⟩), .pointer (some ⟨w.heap.size, 7, none⟩)] 121)).drewN q = W1 at HP1 HA1 HB1 ⊢
      have d0 := Csn.KbC.cell (i := 0) HP1.out rfl
      have d1 := Csn.KbC.cell (i := 1) HP1.out rfl
      have hne : ¬ W0.heap.size = w.heap.size := by have := HL.out; omega
      have d1b : (W1.setCell ⟨w.heap.size, 6, none⟩ (.string ⟨#[]⟩)).cell? ⟨W0.heap.size, 1, none⟩ = some (.pointer (some ⟨w.heap.size, 7, none⟩)) := by
        rw [World.cell?_setCell_other _ _ _ _ (by intro e; simp only [Addr.mk.injEq] at e; omega)]; exact d1
      have f6 : W1.frozen? ⟨w.heap.size, 6, none⟩ = false := Csn.KbC.frz HA1.out
      have e6 := (at8_box HA1.out).c6
      have HA2 := Lib.hid (kbc_set (g' := ⟨(t, s, r), o, i, n, nilS, v⟩) 6 (.string ⟨#[]⟩) HA1.out rfl)
      have f7 : (W1.setCell ⟨w.heap.size, 6, none⟩ (.string ⟨#[]⟩)).frozen? ⟨w.heap.size, 7, none⟩ = false := Csn.KbC.frz HA2.out
      have e7 := (at8_box HA2.out).c7
      dsimp only at e6 e7
      have HA3 := Lib.hid (kbc_set (g' := ⟨(t, s, r), o, i, n, nilS, nilS⟩) 7 (.string ⟨#[]⟩) HA2.out rfl)
      have HB3 := Lib.hid ((HB1.out.setCell (p := ⟨w.heap.size, 6, none⟩) (Nat.le_refl _) (.string ⟨#[]⟩)).setCell (p := ⟨w.heap.size, 7, none⟩) (Nat.le_refl _) (.string ⟨#[]⟩))
      obtain ⟨c0, c1, c2, c3, c4, c5, c6, c7⟩ := at8_box HA3.out
      unfold nilS at c6 c7
      dsimp only at c0 c1 c2 c3 c4 c5 c6 c7
      cases dn
      all_goals
        go_wp2_with fail
        refine wp_loop_rounds 3 ?_
        rw [rounds_succ]
        go_wp2_with fail
        rw [rounds_succ]
        go_wp2_with fail
        rw [rounds_succ]
        go_wp2_with fail
        go_ret
        exact ⟨by rw [HU.out]; rfl, HB3.out⟩
  · have HU := Lib.hid (unused_N (g := ⟨(t, s, r), o, i, n, a, v⟩) hN)
    dsimp only at HU
    rw [hda, hdv] at HU
    clear hdn hda hdv
    refine (fieldsN_s _ o W0 (at8_box HA0.out).c3 hN).mono ?_
    rintro e w1 ⟨rfl, rfl⟩
    have HP1 := Lib.hid (kbc_new W0 (.cells #[.pointer (some ⟨w.heap.size, 5, none⟩)] 121))
    have hbx := (box_below W0 (.cells #[.pointer (some ⟨w.heap.size, 5, none⟩)] 121))
    have HA1 := Lib.hid (Csn.KbC.step HA0.out hbx)
    have HB1 := Lib.hid (HB0.out.trans (hbx.mono HB0.out.size))
    clear hbx hN HA0 HK0
    generalize W0.alloc (.cells #[.pointer (some ⟨w.heap.size, 5, none⟩)] 121) = W1 at HP1 HA1 HB1 ⊢
    have d0 := Csn.KbC.cell (i := 0) HP1.out rfl
    have f5 : W1.frozen? ⟨w.heap.size, 5, none⟩ = false := Csn.KbC.frz HA1.out
    have e5 := (at8_box HA1.out).c5
    dsimp only at e5
    have HA2 := Lib.hid (kbc_set (g' := ⟨(t, s, r), o, i, nilS, a, v⟩) 5 (.string ⟨#[]⟩) HA1.out rfl)
    have HB3 := Lib.hid (HB1.out.setCell (p := ⟨w.heap.size, 5, none⟩) (Nat.le_refl _) (.string ⟨#[]⟩))
    obtain ⟨c0, c1, c2, c3, c4, c5, c6, c7⟩ := at8_box HA2.out
    unfold nilS at c5
    dsimp only at c0 c1 c2 c3 c4 c5 c6 c7
    cases da <;> cases dv
    all_goals
      go_wp2_with fail
      refine wp_loop_rounds 2 ?_
      rw [rounds_succ]
      go_wp2_with fail
      rw [rounds_succ]
      go_wp2_with fail
      go_ret
      exact ⟨by rw [HU.out]; rfl, HB3.out⟩
end Go.Proofs.YtbkignlbcneddaaGreatDoor
end
