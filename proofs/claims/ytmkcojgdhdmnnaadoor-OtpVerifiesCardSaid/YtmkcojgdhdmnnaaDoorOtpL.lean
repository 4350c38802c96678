/-
  Pure values of layer otp: the code of a counter, the search for a code, recovery codes, lists without one code. No condition.
-/
import Derived.Test.YtmkcojgdhdmnnaaDoorDigMac
import Derived.Test.YtmkcojgdhdmnnaaDoorClkA
import Derived.Test.YtmkcojgdhdmnnaaDoorAttName
import Derived.Test.YtmkcojgdhdmnnaaDoorCodecRInt2
set_option linter.unusedVariables false
set_option linter.unusedSimpArgs false
set_option linter.unnecessarySimpa false
namespace Go.Proofs.YtmkcojgdhdmnnaaDoor
open Go.RowKit Go.PlainAid

theorem str_eq (a b : ByteArray) : (a.toList == b.toList) = decide (a = b) := by
  rw [Lib.toList_data, Lib.toList_data, Bool.eq_iff_iff, beq_iff_eq, decide_eq_true_eq]
  exact ⟨fun h => by rw [← Lib.mk_data a, ← Lib.mk_data b, h], fun h => by rw [h]⟩
theorem str_ne (a b : ByteArray) : (a.toList != b.toList) = decide (a ≠ b) := by
  rw [bne, str_eq]; by_cases h : a = b <;> simp [h]
def intS (n : Int) : ByteArray := ofL (Lib.itoa n)
def mostC : Int := 36650387592
def codeN (s : ByteArray) (c : Int) : Nat := sumN (macS s (intS c)).data.toList % 1000000
def zeroL (k : Nat) : List UInt8 := List.replicate k 48
def padL (n : Nat) : List UInt8 := zeroL (6 - (Lib.decDigits n).length) ++ Lib.decDigits n
def codeS (s : ByteArray) (c : Int) : ByteArray := ofL (padL (codeN s c))
theorem codeN_lt (s : ByteArray) (c : Int) : codeN s c < 1000000 := Nat.mod_lt _ (by decide)
theorem dec_six {n : Nat} (h : n < 1000000) : (Lib.decDigits n).length ≤ 6 := dec_len 5 n (by omega)
theorem padL_len {n : Nat} (h : n < 1000000) : (padL n).length = 6 := by
  have := dec_six h
  unfold padL zeroL
  rw [List.length_append, List.length_replicate]; omega
theorem codeS_size (s : ByteArray) (c : Int) : (codeS s c).size = 6 := by
  unfold codeS ofL; rw [Lib.size_mk]; exact padL_len (codeN_lt s c)
theorem dec_digB (n : Nat) : ∀ c ∈ Lib.decDigits n, 48 ≤ c.toNat ∧ c.toNat ≤ 57 := by
  induction n using Nat.strongRecOn with
  | _ n ih =>
    intro c hc
    rw [Lib.decDigits] at hc
    split at hc
    · next h =>
      simp only [List.mem_singleton] at hc
      subst hc
      rw [UInt8.toNat_ofNat']; omega
    · next h =>
      rw [List.mem_append] at hc
      rcases hc with hc | hc
      · exact ih (n / 10) (by omega) c hc
      · simp only [List.mem_singleton] at hc
        subst hc
        rw [UInt8.toNat_ofNat']; omega
/-- a code has six digits -/
def isC (s : ByteArray) : Bool := decide (s.size = 6) && allB dgtI s
theorem padL_dig (n : Nat) : ∀ x ∈ padL n, 48 ≤ x.toNat ∧ x.toNat ≤ 57 := by
  intro x hx
  unfold padL zeroL at hx
  rw [List.mem_append] at hx
  rcases hx with hx | hx
  · rw [List.mem_replicate] at hx; rw [hx.2]; decide
  · exact dec_digB _ x hx
theorem isC_of {l : List UInt8} (h6 : l.length = 6) (h : ∀ x ∈ l, 48 ≤ x.toNat ∧ x.toNat ≤ 57) : isC (ofL l) = true := by
  unfold isC
  have hs : (ofL l).size = 6 := by unfold ofL; rw [Lib.size_mk]; exact h6
  rw [decide_eq_true hs, Bool.true_and]
  refine allB_true fun j hj => ?_
  have e0 : (ofL l).data.toList = l := by unfold ofL; simp
  have hj' : j < l.length := by rw [h6]; rw [hs] at hj; exact hj
  have := h _ (List.getElem_mem hj')
  have e : bt (ofL l) j = ((l[j]).toNat : Int) := by
    rw [bt_chr]; unfold chr; rw [e0, List.getD_eq_getElem?_getD, List.getElem?_eq_getElem hj']; rfl
  unfold dgtI
  rw [e, decide_eq_true (by omega), decide_eq_true (by omega)]; rfl
theorem codeS_isC (s : ByteArray) (c : Int) : isC (codeS s c) = true := isC_of (padL_len (codeN_lt s c)) (padL_dig _)

/-- the first of n counters from a on whose code this is -/
def findC (s code : ByteArray) (a : Int) : Nat → Option Int
  | 0 => none
  | n + 1 => if codeS s a = code then some a else findC s code (a + 1) n
theorem findC_some {s code : ByteArray} : ∀ {n : Nat} {a c : Int}, findC s code a n = some c → a ≤ c ∧ c < a + n ∧ codeS s c = code ∧ ∀ d, a ≤ d → d < c → codeS s d ≠ code
  | 0, a, c, h => by cases h
  | n + 1, a, c, h => by
    unfold findC at h
    split at h
    · next e =>
      obtain rfl : a = c := by simpa using h
      exact ⟨Int.le_refl _, by omega, e, fun d h1 h2 => absurd h2 (by omega)⟩
    · next e =>
      obtain ⟨h1, h2, h3, h4⟩ := findC_some h
      refine ⟨by omega, by omega, h3, fun d k1 k2 => ?_⟩
      by_cases q : d = a
      · rw [q]; exact e
      · exact h4 d (by omega) k2
theorem findC_none {s code : ByteArray} : ∀ {n : Nat} {a : Int}, findC s code a n = none → ∀ d, a ≤ d → d < a + n → codeS s d ≠ code
  | 0, a, h, d, h1, h2 => absurd h2 (by omega)
  | n + 1, a, h, d, h1, h2 => by
    unfold findC at h
    split at h
    · cases h
    · next e =>
      by_cases q : d = a
      · rw [q]; exact e
      · exact findC_none h d (by omega) (by omega)
theorem findC_at {s code : ByteArray} {n : Nat} {a c : Int} (h1 : a ≤ c) (h2 : c < a + n) (h3 : codeS s c = code) : ∃ d, findC s code a n = some d := by
  cases h : findC s code a n with
  | some d => exact ⟨d, rfl⟩
  | none => exact absurd h3 (findC_none h c h1 h2)
theorem findC_eq {s code : ByteArray} {n : Nat} {a c : Int} (h1 : a ≤ c) (h2 : c < a + n) (h3 : codeS s c = code) (h4 : ∀ d, a ≤ d → d < c → codeS s d ≠ code) : findC s code a n = some c := by
  obtain ⟨d, hd⟩ := findC_at h1 h2 h3
  obtain ⟨k1, k2, k3, k4⟩ := findC_some hd
  rw [hd]
  rcases Int.lt_trichotomy c d with q | q | q
  · exact absurd h3 (k4 c h1 q)
  · rw [q]
  · exact absurd k3 (h4 d k1 q)
theorem findC_more {s code : ByteArray} {n m : Nat} {a c : Int} (h : findC s code a n = some c) (hm : n ≤ m) : findC s code a m = some c := by
  obtain ⟨k1, k2, k3, k4⟩ := findC_some h
  exact findC_eq k1 (by omega) k3 k4
/-- what the search from a to b returns -/
def fndR (s code : ByteArray) (a b : Int) : Int × Int := match findC s code a (min b mostC + 1 - a).toNat with
  | some c => (c, 0)
  | none => (0, 11)
theorem fndR_some {s code : ByteArray} {a b : Int} (h : (fndR s code a b).2 = 0) : ∃ c, fndR s code a b = (c, 0) ∧ a ≤ c ∧ c ≤ b ∧ c ≤ mostC ∧ codeS s c = code ∧ ∀ d, a ≤ d → d < c → codeS s d ≠ code := by
  unfold fndR at h ⊢
  cases hf : findC s code a (min b mostC + 1 - a).toNat with
  | none => rw [hf] at h; cases h
  | some c =>
    obtain ⟨k1, k2, k3, k4⟩ := findC_some hf
    exact ⟨c, rfl, k1, by omega, by omega, k3, k4⟩
theorem fndR_ok {s code : ByteArray} {a b c : Int} (h1 : a ≤ c) (h2 : c ≤ b) (h3 : c ≤ mostC) (h4 : codeS s c = code) : (fndR s code a b).2 = 0 := by
  unfold fndR
  obtain ⟨d, hd⟩ := findC_at (s := s) (code := code) (n := (min b mostC + 1 - a).toNat) h1 (by omega) h4
  rw [hd]
theorem fndR_eq {s code : ByteArray} {a b c : Int} (h1 : a ≤ c) (h2 : c ≤ b) (h3 : c ≤ mostC) (h4 : codeS s c = code) (h5 : ∀ d, a ≤ d → d < c → codeS s d ≠ code) : fndR s code a b = (c, 0) := by
  unfold fndR
  rw [findC_eq (s := s) (code := code) (n := (min b mostC + 1 - a).toNat) h1 (by omega) h4 h5]
theorem fndR_bd (s code : ByteArray) {a b : Int} (ha : -1000000000000 ≤ a) : -1000000000000 ≤ (fndR s code a b).1 ∧ (fndR s code a b).1 ≤ mostC := by
  by_cases h : (fndR s code a b).2 = 0
  · obtain ⟨c, e, h1, h2, h3, _⟩ := fndR_some h
    rw [e]; exact ⟨by show _ ≤ c; omega, h3⟩
  · unfold fndR at h ⊢
    split
    · next c hf => rw [hf] at h; exact absurd rfl h
    · exact ⟨by decide, by decide⟩
theorem fndR_err (s code : ByteArray) (a b : Int) : (fndR s code a b).2 = 0 ∨ (fndR s code a b).2 = 11 := by
  unfold fndR
  split
  · exact .inl rfl
  · exact .inr rfl
def ctrI (now : Int) : Int := limI now / 30
theorem ctrI_bd (now : Int) : 0 ≤ ctrI now ∧ ctrI now ≤ mostC := by
  have := limI_bd now
  unfold ctrI mostC; omega
def lstB (n : Int) : Bool := decide (-1 ≤ n) && decide (n ≤ mostC)
def codR (s : ByteArray) (c : Int) : ByteArray × Int := if cleanB s then (if 0 ≤ c ∧ c ≤ mostC then (codeS s c, 0) else (⟨#[]⟩, 27)) else (⟨#[]⟩, 4)
def verR (s : ByteArray) (last look : Int) (code : ByteArray) : Int × Int :=
  if cleanB s && isC code then (if lstB last = true ∧ 0 ≤ look ∧ look ≤ 16 then fndR s code (last + 1) (last + look) else (0, 27)) else (0, 4)
def vatR (s : ByteArray) (last now skew : Int) (code : ByteArray) : Int × Int :=
  if cleanB s && isC code then (if lstB last then fndR s code (max (last + 1) (ctrI now - skewI skew / 30)) (ctrI now + skewI skew / 30) else (0, 27)) else (0, 4)
/-- recovery codes -/
def recP : ByteArray := ⟨#[114, 101, 99, 111, 118, 101, 114, 121]⟩
def recS (s : ByteArray) (i : Nat) : ByteArray := (macS s (recP ++ intS i)).extract 0 10
def recL (s : ByteArray) (n : Nat) : List ByteArray := (List.range n).map (recS s)
def recR (s : ByteArray) (n : Int) : List ByteArray × Int := if cleanB s then (if 1 ≤ n ∧ n ≤ 16 then (recL s n.toNat, 0) else ([], 27)) else ([], 4)
theorem recL_len (s : ByteArray) (n : Nat) : (recL s n).length = n := by unfold recL; simp
theorem recL_succ (s : ByteArray) (n : Nat) : recL s (n + 1) = recL s n ++ [recS s n] := by unfold recL; rw [List.range_succ, List.map_append]; rfl
theorem recL_take (s : ByteArray) (n m : Nat) (h : n ≤ m) : (recL s m).take n = recL s n := by
  unfold recL
  rw [← List.map_take, List.take_range]
  rw [Nat.min_eq_left h]
theorem macS_size (k s : ByteArray) : (macS k s).size = 16 := txtS_size _
theorem recS_size (s : ByteArray) (i : Nat) : (recS s i).size = 10 := by
  unfold recS
  rw [ByteArray.size_extract, macS_size]; rfl
/-- a list without the first c -/
def wthL (c : ByteArray) : List ByteArray → List ByteArray
  | [] => []
  | x :: l => if x = c then l else x :: wthL c l
def hasB (l : List ByteArray) (c : ByteArray) : Bool := l.any fun x => decide (x = c)
theorem hasB_iff {l : List ByteArray} {c : ByteArray} : hasB l c = true ↔ c ∈ l := by
  unfold hasB
  rw [List.any_eq_true]
  exact ⟨fun ⟨x, h, e⟩ => (of_decide_eq_true e) ▸ h, fun h => ⟨c, h, decide_eq_true rfl⟩⟩
def redR (l : List ByteArray) (c : ByteArray) : List ByteArray × Int := if hasB l c then (wthL c l, 0) else ([], 6)
theorem wthL_at {c : ByteArray} : ∀ {l : List ByteArray} {i : Nat} (h : i < l.length), l[i] = c → (∀ j (hj : j < i), l[j] ≠ c) → wthL c l = l.take i ++ l.drop (i + 1)
  | x :: l, 0, h, e, hn => by
    have e : x = c := e
    unfold wthL; rw [if_pos e]; rfl
  | x :: l, i + 1, h, e, hn => by
    have h0 : x ≠ c := hn 0 (by omega)
    unfold wthL
    rw [if_neg h0, wthL_at (l := l) (i := i) (by simpa using h) e (fun j hj => hn (j + 1) (by omega))]
    rfl
theorem wthL_len {c : ByteArray} : ∀ {l : List ByteArray}, c ∈ l → (wthL c l).length + 1 = l.length
  | [], h => by cases h
  | x :: l, h => by
    unfold wthL
    by_cases e : x = c
    · rw [if_pos e]; rfl
    · rw [if_neg e]
      have : c ∈ l := by
        rcases List.mem_cons.1 h with q | q
        · exact absurd q.symm e
        · exact q
      have := wthL_len this
      simp only [List.length_cons]; omega
/-- how often a string is in a list -/
def cntL (l : List ByteArray) (s : ByteArray) : Nat := match l with
  | [] => 0
  | x :: r => (if x = s then 1 else 0) + cntL r s
theorem cntL_app (l m : List ByteArray) (s : ByteArray) : cntL (l ++ m) s = cntL l s + cntL m s := by
  induction l with
  | nil => simp [cntL]
  | cons x l ih => simp only [List.cons_append, cntL]; rw [ih]; omega
theorem cntL_take (l : List ByteArray) (s : ByteArray) (i : Nat) (h : i < l.length) : cntL (l.take (i + 1)) s = cntL (l.take i) s + (if l[i] = s then 1 else 0) := by
  rw [List.take_succ_eq_append_getElem h, cntL_app]; rfl
theorem wthL_cnt {c : ByteArray} : ∀ {l : List ByteArray}, c ∈ l → ∀ s, cntL (wthL c l) s + (if s = c then 1 else 0) = cntL l s
  | [], h, s => by cases h
  | x :: l, h, s => by
    unfold wthL
    by_cases e : x = c
    · rw [if_pos e, e]
      simp only [cntL]
      by_cases q : s = c
      · rw [if_pos q, if_pos q.symm]; omega
      · rw [if_neg q, if_neg (fun k => q k.symm)]; omega
    · rw [if_neg e]
      have hm : c ∈ l := by
        rcases List.mem_cons.1 h with q | q
        · exact absurd q.symm e
        · exact q
      have := wthL_cnt hm s
      simp only [cntL]; omega
end Go.Proofs.YtmkcojgdhdmnnaaDoor
