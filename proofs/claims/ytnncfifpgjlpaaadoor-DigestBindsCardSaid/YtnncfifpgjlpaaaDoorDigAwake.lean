/-
  The contract of the law's awake: the chapter's examples. Condition: the library's table of powers lies as the program's text lays it.
-/
import Derived.Test.YtnncfifpgjlpaaaDoorDigStrings
import Derived.Test.YtnncfifpgjlpaaaDoorDigMac
import Derived.Test.YtnncfifpgjlpaaaDoorDigRRead
set_option linter.unusedVariables false
set_option linter.unusedSimpArgs false
set_option linter.unnecessarySimpa false
namespace Go.Proofs.YtnncfifpgjlpaaaDoor
open Go.RowKit Go.PlainAid

theorem text_k (s r : ByteArray) (w : World) (hs : s.size ≤ 1000000000) (h : txtS s = r) :
    Calls Tryd.prog 16 #[.string s] w fun e w' => e = .returned (.string r) ∧ Below w.heap.size w w' := by
  subst h; exact text_s s w hs
theorem readHex_k (s : ByteArray) (n : Nat) (e0 : Int) (w : World) (hs : s.size ≤ 1000000000) (h : rdV s.data.toList = n ∧ rdE s.data.toList = e0) :
    Calls Tryd.prog 18 #[.string s] w fun e w' => e = .returned (.tuple #[.int .u64 n, .int .i64 e0]) ∧ w = w' := by
  obtain ⟨rfl, rfl⟩ := h; exact readHex_s s w hs
theorem hex_k (n : Nat) (r : ByteArray) (w : World) (hn : n < 18446744073709551616) (h : (⟨(hexN n).toArray⟩ : ByteArray) = r) :
    Calls Tryd.prog 14 #[.int .u64 n] w fun e w' => e = .returned (.string r) ∧ Below w.heap.size w w' := by
  subst h; exact hex_s n w hn
theorem sum_k (s : ByteArray) (n : Nat) (w : World) (hs : s.size ≤ 1000000000) (h : sumN s.data.toList = n) :
    Calls Tryd.prog 12 #[.string s] w fun e w' => e = .returned (.int .u64 n) ∧ w = w' := by
  subst h; exact sum_s s w hs
theorem mac_k (key s r : ByteArray) (w : World) (hk : key.size ≤ 1000000) (hs : s.size ≤ 1000000) (ho : PowOk w) (h : macS key s = r) :
    Calls Tryd.prog 20 #[.string key, .string s] w fun e w' => e = .returned (.string r) ∧ Below w.heap.size w w' := by
  subst h; exact mac_s key s w hk hs ho
theorem chain_k (a s r : ByteArray) (w : World) (hk : a.size ≤ 1000000) (hs : s.size ≤ 1000000) (h : chainS a s = r) :
    Calls Tryd.prog 24 #[.string a, .string s] w fun e w' => e = .returned (.string r) ∧ Below w.heap.size w w' := by
  subst h; exact chain_s a s w hk hs
theorem iterate_k (salt s x : ByteArray) (r : Int) (w : World) (hk : salt.size ≤ 1000000) (hs : s.size ≤ 1000000) (h0 : -9223372036854775808 ≤ r) (h1 : r ≤ 9223372036854775807) (h : iterS salt s r = x) :
    Calls Tryd.prog 22 #[.string salt, .string s, .int .i64 r] w fun e w' => e = .returned (.string x) ∧ Below w.heap.size w w' := by
  subst h; exact iterate_s salt s r w hk hs h0 h1
theorem root_k (ao : Option Addr) (n cap : Nat) (ps : List ByteArray) (r : ByteArray) (w : World) (h : StrsAt w ao n cap ps) (hn : n ≤ 1000) (hp : ∀ j, j < n → (partAt ps j).size ≤ 1000) (hr : rootS ps = r) :
    Calls Tryd.prog 29 #[.slice ao n cap] w fun e w' => e = .returned (.string r) ∧ Below w.heap.size w w' := by
  subst hr; exact root_s ao n cap ps w h hn hp
theorem path_k (ao : Option Addr) (n cap : Nat) (ps Q : List ByteArray) (i m : Nat) (w : World) (h : StrsAt w ao n cap ps) (hn : n ≤ 1000) (hp : ∀ j, j < n → (partAt ps j).size ≤ 1000) (hi : i < n) (hQ : pathL (ps.map leafS) i = Q) (hm : Q.length = m) :
    Calls Tryd.prog 27 #[.slice ao n cap, .int .i64 i] w fun e w' => (∃ bo dap, e = .returned (.tuple #[.slice bo m dap, .int .i64 0]) ∧ StrsAt w' bo m dap Q) ∧ Below w.heap.size w w' := by
  subst hQ hm; exact path_s ao n cap ps i w h hn hp hi
theorem proves_k (root s : ByteArray) (i n : Nat) (ao : Option Addr) (l cap : Nat) (ps : List ByteArray) (r : Bool) (w : World) (hi : i < n) (hn : n < 9223372036854775808) (hs : s.size ≤ 1000)
    (h : StrsAt w ao l cap ps) (hl : l ≤ 1000) (hp : ∀ j, j < ps.length → (partAt ps j).size ≤ 1000) (hr : provesB root s i n ps = r) :
    Calls Tryd.prog 32 #[.string root, .string s, .int .i64 i, .int .i64 n, .slice ao l cap] w fun e w' => e = .returned (.bool r) ∧ Below w.heap.size w w' := by
  subst hr; exact proves_yes root s i n ao l cap ps w hi hn hs h hl hp
theorem StrsAt.take {w : World} {ao : Option Addr} {n cap : Nat} {ps : List ByteArray} (h : StrsAt w ao n cap ps) (k : Nat) (hk : k ≤ n) : StrsAt w ao k cap (ps.take k) := by
  obtain ⟨h1, h2, h3, h4⟩ := h
  refine ⟨by rw [List.length_take]; omega, by omega, h3, fun h0 => ?_⟩
  obtain ⟨b, off, e, hi⟩ := h4 (by omega)
  refine ⟨b, off, e, hi.1, fun j hj => ?_⟩
  rw [List.length_take] at hj
  rw [hi.2 j (by omega)]
  unfold partAt
  rw [List.getD_eq_getElem?_getD, List.getD_eq_getElem?_getD, List.getElem?_take, if_pos (by omega)]

def xa : ByteArray := ⟨#[97]⟩
def xb : ByteArray := ⟨#[98]⟩
def xc : ByteArray := ⟨#[99]⟩
theorem leaf_a : leafS ⟨#[97]⟩ = txtS ⟨#[48, 97]⟩ := by
  unfold leafS; rw [show leafQ ⟨#[97]⟩ = ⟨#[48, 97]⟩ by decide]
theorem leaf_b : leafS ⟨#[98]⟩ = txtS ⟨#[48, 98]⟩ := by
  unfold leafS; rw [show leafQ ⟨#[98]⟩ = ⟨#[48, 98]⟩ by decide]
theorem leaf_c : leafS ⟨#[99]⟩ = txtS ⟨#[48, 99]⟩ := by
  unfold leafS; rw [show leafQ ⟨#[99]⟩ = ⟨#[48, 99]⟩ by decide]
theorem root_a : rootS [⟨#[97]⟩] = txtS ⟨#[48, 97]⟩ := by
  unfold rootS
  rw [if_neg (by simp), List.map_cons, List.map_nil, topL_one _ (by simp), leaf_a]; rfl
theorem root_ab : rootS [⟨#[97]⟩, ⟨#[98]⟩] = pairS (txtS ⟨#[48, 97]⟩) (txtS ⟨#[48, 98]⟩) := by
  unfold rootS
  rw [if_neg (by simp), List.map_cons, List.map_cons, List.map_nil, topL_up _ (by simp), leaf_a, leaf_b]
  show topL [pairS _ _] = _
  rw [topL_one _ (by simp)]; rfl
theorem path_2 : pathL ([⟨#[97]⟩, ⟨#[98]⟩, ⟨#[99]⟩].map leafS) 2 = [pairS (txtS ⟨#[48, 97]⟩) (txtS ⟨#[48, 98]⟩)] := by
  rw [List.map_cons, List.map_cons, List.map_cons, List.map_nil, leaf_a, leaf_b, leaf_c, pathL_up _ _ (by simp), if_neg (by unfold mate; simp)]
  show [] ++ pathL [pairS _ _, txtS ⟨#[48, 99]⟩] (2 / 2) = _
  rw [pathL_up _ _ (by simp), if_pos (by unfold mate; simp)]
  show [] ++ ([pairS _ _] ++ pathL [pairS _ _] _) = _
  rw [pathL_one _ _ (by simp)]; rfl
theorem path_0 : pathL ([⟨#[97]⟩, ⟨#[98]⟩, ⟨#[99]⟩].map leafS) 0 = [txtS ⟨#[48, 98]⟩, txtS ⟨#[48, 99]⟩] := by
  rw [List.map_cons, List.map_cons, List.map_cons, List.map_nil, leaf_a, leaf_b, leaf_c, pathL_up _ _ (by simp), if_pos (by unfold mate; simp)]
  show [txtS ⟨#[48, 98]⟩] ++ pathL [pairS _ _, txtS ⟨#[48, 99]⟩] 0 = _
  rw [pathL_up _ _ (by simp), if_pos (by unfold mate; simp)]
  show _ ++ ([txtS ⟨#[48, 99]⟩] ++ pathL [pairS _ _] _) = _
  rw [pathL_one _ _ (by simp)]; rfl
theorem proves_1 : provesB (txtS ⟨#[48, 97]⟩) ⟨#[97]⟩ ((0 : Nat) : Int) ((1 : Nat) : Int) [] = true := by
  rw [tip_start _ _ _ _ (by decide), tip_end _ _ _ _ _ (by decide), leaf_a]
  simp
theorem proves_2 : provesB (txtS ⟨#[48, 97]⟩) ⟨#[97]⟩ ((0 : Nat) : Int) ((2 : Nat) : Int) [] = false := by
  rw [tip_start _ _ _ _ (by decide), tip_none _ _ _ _ (by decide) (by decide)]
theorem mac_1 : macS ⟨#[107]⟩ ⟨#[109]⟩ = txtS (⟨#[49, 58, 107]⟩ ++ txtS ⟨#[49, 58, 107, 109]⟩) := by
  have e : macP ⟨#[107]⟩ = ⟨#[49, 58, 107]⟩ := by decide +kernel
  unfold macS
  rw [e, show (⟨#[49, 58, 107]⟩ : ByteArray) ++ ⟨#[109]⟩ = ⟨#[49, 58, 107, 109]⟩ by decide]
theorem iter_1 : iterS ⟨#[115]⟩ ⟨#[112]⟩ 1 = txtS (txtS ⟨#[115, 124, 112]⟩ ++ ⟨#[124, 115]⟩) := by
  unfold iterS
  rw [show (min (max (1 : Int) 0) 64).toNat = 1 by decide, show (⟨#[115]⟩ : ByteArray) ++ ⟨#[124]⟩ ++ ⟨#[112]⟩ = ⟨#[115, 124, 112]⟩ by decide]
  show txtS (txtS ⟨#[115, 124, 112]⟩ ++ ⟨#[124]⟩ ++ ⟨#[115]⟩) = _
  rw [ByteArray.append_assoc, show (⟨#[124]⟩ : ByteArray) ++ ⟨#[115]⟩ = ⟨#[124, 115]⟩ by decide]
theorem chain_1 : chainS ⟨#[97]⟩ ⟨#[98]⟩ = txtS ⟨#[97, 124, 98]⟩ := by
  unfold chainS
  rw [show (⟨#[97]⟩ : ByteArray) ++ ⟨#[124]⟩ ++ ⟨#[98]⟩ = ⟨#[97, 124, 98]⟩ by decide]
theorem rd_1 : rdV (⟨#[48, 48, 48, 48, 48, 48, 48, 48, 48, 48, 48, 48, 48, 48, 102, 102]⟩ : ByteArray).data.toList = 255 ∧ rdE (⟨#[48, 48, 48, 48, 48, 48, 48, 48, 48, 48, 48, 48, 48, 48, 102, 102]⟩ : ByteArray).data.toList = 0 := by decide +kernel
theorem rd_2 : rdV (⟨#[48, 48, 48, 48, 48, 48, 48, 48, 48, 48, 48, 48, 48, 48, 70, 70]⟩ : ByteArray).data.toList = 0 ∧ rdE (⟨#[48, 48, 48, 48, 48, 48, 48, 48, 48, 48, 48, 48, 48, 48, 70, 70]⟩ : ByteArray).data.toList = 4 := by decide +kernel
theorem hex_1 : (⟨(hexN 255).toArray⟩ : ByteArray) = ⟨#[48, 48, 48, 48, 48, 48, 48, 48, 48, 48, 48, 48, 48, 48, 102, 102]⟩ := by decide +kernel
theorem sum_a : sumN (⟨#[97]⟩ : ByteArray).data.toList = 9413272369427828315 := by decide +kernel
theorem sum_b : sumN (⟨#[98]⟩ : ByteArray).data.toList = 7955382828454826704 := by decide +kernel

end Go.Proofs.YtnncfifpgjlpaaaDoor
