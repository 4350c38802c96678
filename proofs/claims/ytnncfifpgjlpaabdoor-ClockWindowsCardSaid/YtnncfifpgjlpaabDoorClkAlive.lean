/-
  The contract of the law's alive: the chapter's small cases. Condition: the program's table of the lengths of months and the library's table of powers lie as their texts lay them.
-/
import Derived.Test.YtnncfifpgjlpaabDoorClkUni
import Derived.Test.YtnncfifpgjlpaabDoorClkParse
set_option linter.unusedVariables false
set_option linter.unusedSimpArgs false
set_option linter.unnecessarySimpa false
namespace Go.Proofs.YtnncfifpgjlpaabDoor
open Go.RowKit Go.PlainAid

theorem common_k (u v r : Wn) (b : Bool) (w : World) (h : comW u v = r) (hb : comB u v = b) :
    Calls Tryd.prog 21 #[.agg #[.int .i64 u.1, .int .i64 u.2], .agg #[.int .i64 v.1, .int .i64 v.2]] w fun e w' => e = .returned (.tuple #[.agg #[.int .i64 r.1, .int .i64 r.2], .bool b]) ∧ Below w.heap.size w w' := by
  subst h; subst hb; exact common_s u v w
theorem parse_k (t : ByteArray) (n e0 : Int) (w : World) (ho : MonOk w) (h : parseR t.data.toList = (n, e0)) :
    Calls Tryd.prog 26 #[.string t] w fun e w' => e = .returned (.tuple #[.int .i64 n, .int .i64 e0]) ∧ Below w.heap.size w w' := by
  have := parse_s t w ho
  rw [h] at this; exact this
theorem union_k (po : Option Addr) (L cp : Nat) (ps qs : List Wn) (w : World) (h : WinsAt w po L cp ps) (hL : L ≤ 1000) (h0 : po = none → L = 0 ∧ cp = 0) (hq : unionW ps = qs) :
    Calls Tryd.prog 24 #[.slice po L cp] w fun e w' => ∃ ao n cap, e = .returned (.slice ao n cap) ∧ WinsAt w' ao n cap qs ∧ Below w.heap.size w w' := by
  subst hq; exact union_s po L cp ps w h hL h0
theorem same_k (ao bo : Option Addr) (n m cap dap : Nat) (ps qs : List Wn) (r : Bool) (w : World) (h : WinsAt w ao n cap ps) (k : WinsAt w bo m dap qs) (hr : decide (ps = qs) = r) :
    Calls Tryd.prog 23 #[.slice ao n cap, .slice bo m dap] w fun e w' => e = .returned (.bool r) ∧ Below w.heap.size w w' := by
  subst hr; exact same_s ao bo n m cap dap ps qs w h k
theorem add_k (t d r : Int) (w : World) (h : addI t d = r) :
    Calls Tryd.prog 12 #[.int .i64 t, .int .i64 d] w fun e w' => e = .returned (.int .i64 r) ∧ w = w' := by subst h; exact add_s t d w
theorem sub_k (t d r : Int) (w : World) (h : subI t d = r) :
    Calls Tryd.prog 14 #[.int .i64 t, .int .i64 d] w fun e w' => e = .returned (.int .i64 r) ∧ w = w' := by subst h; exact sub_s t d w
theorem in_k (a b t : Int) (r : Bool) (w : World) (h : inW a b t = r) :
    Calls Tryd.prog 17 #[.agg #[.int .i64 a, .int .i64 b], .int .i64 t] w fun e w' => e = .returned (.bool r) ∧ Below w.heap.size w w' := by subst h; exact in_s a b t w
theorem check_k (a b t s r : Int) (w : World) (h : checkI a b t s = r) :
    Calls Tryd.prog 19 #[.agg #[.int .i64 a, .int .i64 b], .int .i64 t, .int .i64 s] w fun e w' => e = .returned (.int .i64 r) ∧ Below w.heap.size w w' := by subst h; exact check_s a b t s w
/-- r is an instant's calendar form -/
def FmtIs (t : Int) (r : ByteArray) : Prop := ∃ y m d, okD y m d ∧ numD y m d = (limI t).toNat / 86400 + 719528 ∧ calS y m d ((limI t).toNat % 86400 / 3600) ((limI t).toNat % 86400 / 60 % 60) ((limI t).toNat % 86400 % 60) = r
theorem fmt_ex (t : Int) : ∃ r, FmtIs t r := by
  obtain ⟨y, m, d, h1, h2⟩ := date_ex ((limI t).toNat / 86400 + 719528)
  exact ⟨_, y, m, d, h1, h2, rfl⟩
theorem format_k (t : Int) (r : ByteArray) (w : World) (hm : MonOk w) (hp : PowOk w) (h : FmtIs t r) :
    Calls Tryd.prog 28 #[.int .i64 t] w fun e w' => e = .returned (.string r) ∧ Below w.heap.size w w' := by
  obtain ⟨y, m, d, h1, h2, rfl⟩ := h
  exact format_s t y m d _ _ w rfl rfl h1 h2 hm hp
theorem rformat_k (t : Int) (r : ByteArray) (w : World) (h : FmtIs t r) :
    Calls Tryd.prog 29 #[.int .i64 t] w fun e w' => e = .returned (.string r) ∧ Below w.heap.size w w' := by
  obtain ⟨y, m, d, h1, h2, rfl⟩ := h
  exact rformat_s t y m d _ _ w rfl rfl h1 h2

theorem wins_lit (w : World) (l : List Wn) (hl : 0 < l.length) (hm : l.length ≤ 1000) : WinsAt (w.alloc (.cells (wcells l).toArray 27)) (some ⟨w.heap.size, 0, none⟩) l.length l.length l := by
  refine ⟨rfl, Nat.le_refl _, by unfold maxLen; omega, fun _ => ⟨w.heap.size, 0, rfl, by show _ < (w.heap.push _).size; simp, fun j hj => ?_⟩⟩
  have h : (w.alloc (.cells (wcells l).toArray 27)).heap[w.heap.size]? = some (.cells (wcells l).toArray 27 (0, 0)) := heap_alloc_new w _
  have hk := wcells_at l j hj
  unfold World.cell?
  rw [h]
  exact ⟨by simp [hk.1], by simp [hk.2]⟩

theorem lit_1 : parseR (⟨#[50, 48, 48, 48, 45, 48, 50, 45, 50, 57, 84, 48, 48, 58, 48, 48, 58, 48, 48, 90]⟩ : ByteArray).data.toList = (951782400, 0) := by decide +kernel
theorem lit_2 : parseR (⟨#[50, 48, 48, 49, 45, 48, 50, 45, 50, 57, 84, 48, 48, 58, 48, 48, 58, 48, 48, 90]⟩ : ByteArray).data.toList = (0, 27) := by decide +kernel
theorem lit_u : unionW [(5, 9), (1, 3), (3, 4), (7, 7)] = [(1, 4), (5, 9)] := by decide
theorem pad_lit (l : List UInt8) (k : Nat) (n : Nat) (h1 : l.length = k + 1) (h2 : digAll l = true) (h3 : valD l = n) : padL n (k + 1) = l := by
  rw [← h3]; exact fix_pad k l h1 h2
theorem lit_f0 : FmtIs 0 ⟨#[49, 57, 55, 48, 45, 48, 49, 45, 48, 49, 84, 48, 48, 58, 48, 48, 58, 48, 48, 90]⟩ := by
  refine ⟨1970, 1, 1, ⟨by decide, by decide, by decide, by decide⟩, by decide, ?_⟩
  show calS 1970 1 1 0 0 0 = _
  unfold calS
  rw [pad_lit [49, 57, 55, 48] 3 1970 rfl (by decide) (by decide), pad_lit [48, 49] 1 1 rfl (by decide) (by decide), pad_lit [48, 48] 1 0 rfl (by decide) (by decide)]
  rfl
theorem lit_f1 : FmtIs 86399 ⟨#[49, 57, 55, 48, 45, 48, 49, 45, 48, 49, 84, 50, 51, 58, 53, 57, 58, 53, 57, 90]⟩ := by
  refine ⟨1970, 1, 1, ⟨by decide, by decide, by decide, by decide⟩, by decide, ?_⟩
  show calS 1970 1 1 23 59 59 = _
  unfold calS
  rw [pad_lit [49, 57, 55, 48] 3 1970 rfl (by decide) (by decide), pad_lit [48, 49] 1 1 rfl (by decide) (by decide), pad_lit [50, 51] 1 23 rfl (by decide) (by decide), pad_lit [53, 57] 1 59 rfl (by decide) (by decide)]
  rfl

end Go.Proofs.YtnncfifpgjlpaabDoor
