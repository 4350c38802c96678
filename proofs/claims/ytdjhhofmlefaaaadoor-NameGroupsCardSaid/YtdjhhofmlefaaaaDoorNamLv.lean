/-
  The contracts of the law's live and long, and the contracts of the layer with their results under names. Condition: at most 1000000 bytes.
-/
import Derived.Test.YtdjhhofmlefaaaaDoorNamD
set_option linter.unusedVariables false
set_option linter.unusedSimpArgs false
set_option linter.unnecessarySimpa false
namespace Go.Proofs.YtdjhhofmlefaaaaDoor
open Go.RowKit Go.PlainAid

theorem lit_a : parseE (⟨#[67, 78, 32, 61, 32, 76, 101, 101, 92, 44, 32, 65, 110, 110, 32, 44, 32, 111, 117, 61, 83, 116, 97, 102, 102]⟩ : ByteArray) = 0 ∧ parseV (⟨#[67, 78, 32, 61, 32, 76, 101, 101, 92, 44, 32, 65, 110, 110, 32, 44, 32, 111, 117, 61, 83, 116, 97, 102, 102]⟩ : ByteArray) = [((⟨#[67, 78]⟩ : ByteArray), (⟨#[76, 101, 101, 44, 32, 65, 110, 110]⟩ : ByteArray)), ((⟨#[111, 117]⟩ : ByteArray), (⟨#[83, 116, 97, 102, 102]⟩ : ByteArray))] := by decide +kernel
theorem lit_b : cleanV (⟨#[67, 78, 61, 65, 110, 110, 32, 76, 101, 101, 44, 79, 85, 61, 83, 116, 97, 102, 102]⟩ : ByteArray) = (⟨#[99, 110, 61, 97, 110, 110, 32, 108, 101, 101, 44, 111, 117, 61, 115, 116, 97, 102, 102]⟩ : ByteArray) ∧ cleanE (⟨#[67, 78, 61, 65, 110, 110, 32, 76, 101, 101, 44, 79, 85, 61, 83, 116, 97, 102, 102]⟩ : ByteArray) = 0 := by decide +kernel
theorem lit_c : parseE (⟨#[99, 110, 61, 97, 61, 98]⟩ : ByteArray) = 4 ∧ parseV (⟨#[99, 110, 61, 97, 61, 98]⟩ : ByteArray) = [] := by decide +kernel
theorem lit_d : parseE (⟨#[99, 110, 61, 97, 44]⟩ : ByteArray) = 4 ∧ parseV (⟨#[99, 110, 61, 97, 44]⟩ : ByteArray) = [] := by decide +kernel
theorem lit_e : parentV (⟨#[99, 110, 61, 97, 110, 110, 44, 111, 117, 61, 115, 116, 97, 102, 102]⟩ : ByteArray) = (⟨#[111, 117, 61, 115, 116, 97, 102, 102]⟩ : ByteArray) ∧ parentB (⟨#[99, 110, 61, 97, 110, 110, 44, 111, 117, 61, 115, 116, 97, 102, 102]⟩ : ByteArray) = true := by decide +kernel
theorem lit_f : childV (⟨#[111, 117, 61, 115, 116, 97, 102, 102]⟩ : ByteArray) ((⟨#[67, 78]⟩ : ByteArray), (⟨#[65, 110, 110]⟩ : ByteArray)) = (⟨#[99, 110, 61, 97, 110, 110, 44, 111, 117, 61, 115, 116, 97, 102, 102]⟩ : ByteArray) ∧ childE (⟨#[111, 117, 61, 115, 116, 97, 102, 102]⟩ : ByteArray) ((⟨#[67, 78]⟩ : ByteArray), (⟨#[65, 110, 110]⟩ : ByteArray)) = 0 := by decide +kernel
theorem lit_g : rebV (⟨#[99, 110, 61, 97, 110, 110, 44, 111, 117, 61, 115, 116, 97, 102, 102]⟩ : ByteArray) (⟨#[111, 117, 61, 115, 116, 97, 102, 102]⟩ : ByteArray) (⟨#[111, 117, 61, 112, 101, 111, 112, 108, 101, 44, 111, 61, 120]⟩ : ByteArray) = (⟨#[99, 110, 61, 97, 110, 110, 44, 111, 117, 61, 112, 101, 111, 112, 108, 101, 44, 111, 61, 120]⟩ : ByteArray) ∧ rebE (⟨#[99, 110, 61, 97, 110, 110, 44, 111, 117, 61, 115, 116, 97, 102, 102]⟩ : ByteArray) (⟨#[111, 117, 61, 115, 116, 97, 102, 102]⟩ : ByteArray) (⟨#[111, 117, 61, 112, 101, 111, 112, 108, 101, 44, 111, 61, 120]⟩ : ByteArray) = 0 := by decide +kernel
theorem lit_h : normB (⟨#[]⟩ : ByteArray) = true := by decide +kernel
theorem lit_i : underB (⟨#[99, 110, 61, 97, 110, 110, 44, 111, 117, 61, 115, 116, 97, 102, 102]⟩ : ByteArray) (⟨#[111, 117, 61, 115, 116, 97, 102, 102]⟩ : ByteArray) = true := by decide +kernel
theorem lit_j : underB (⟨#[111, 117, 61, 115, 116, 97, 102, 102]⟩ : ByteArray) (⟨#[99, 110, 61, 97, 110, 110, 44, 111, 117, 61, 115, 116, 97, 102, 102]⟩ : ByteArray) = false := by decide +kernel
theorem lit_k : (compsV (⟨#[99, 110, 61, 97, 110, 110, 44, 111, 117, 61, 115, 116, 97, 102, 102]⟩ : ByteArray)).length = 2 := by decide +kernel
theorem lit_l : cmpN (⟨#[111, 117, 61, 115, 116, 97, 102, 102]⟩ : ByteArray) (⟨#[99, 110, 61, 97, 110, 110, 44, 111, 117, 61, 115, 116, 97, 102, 102]⟩ : ByteArray) = -1 := by decide +kernel
theorem lit_m : cmpN (⟨#[99, 110, 61, 97, 110, 110, 44, 111, 117, 61, 115, 116, 97, 102, 102]⟩ : ByteArray) (⟨#[111, 117, 61, 116, 101, 109, 112]⟩ : ByteArray) = -1 := by decide +kernel
theorem parse_k (s : ByteArray) (E : Int) (V : List Pr) (w : World) (hs : s.size ≤ 1000000) (h : parseE s = E ∧ parseV s = V) :
    Calls Tryd.prog 13 #[.string s] w fun e w' => ∃ ao cap, e = .returned (.tuple #[.slice ao V.length cap, .int .i64 E]) ∧ PairsAt w' ao V.length cap V ∧ Below w.heap.size w w' := by
  obtain ⟨rfl, rfl⟩ := h
  refine (parse_s s w hs).mono fun e w' k => ?_
  obtain ⟨v, rfl, hown, hb⟩ := k
  obtain ⟨ao, cap, rfl, hat⟩ := pairs_own hown rfl
  exact ⟨ao, cap, rfl, hat, hb⟩
theorem rparse_k (s : ByteArray) (E : Int) (V : List Pr) (w : World) (hs : s.size ≤ 1000000) (h : parseE s = E ∧ parseV s = V) :
    Calls Tryd.prog 14 #[.string s] w fun e w' => ∃ ao cap, e = .returned (.tuple #[.slice ao V.length cap, .int .i64 E]) ∧ PairsAt w' ao V.length cap V ∧ Below w.heap.size w w' := by
  obtain ⟨rfl, rfl⟩ := h
  refine (rparse_s s w hs).mono fun e w' k => ?_
  obtain ⟨v, rfl, hown, hb⟩ := k
  obtain ⟨ao, cap, rfl, hat⟩ := pairs_own hown rfl
  exact ⟨ao, cap, rfl, hat, hb⟩
theorem clean_k (s : ByteArray) (V : ByteArray) (E : Int) (w : World) (hs : s.size ≤ 1000000) (h : cleanV s = V ∧ cleanE s = E) :
    Calls Tryd.prog 21 #[.string s] w fun e w' => e = .returned (.tuple #[.string V, .int .i64 E]) ∧ Below w.heap.size w w' := by
  obtain ⟨rfl, rfl⟩ := h
  exact clean0_s s w hs
theorem valid_k (s : ByteArray) (V : Bool) (w : World) (hs : s.size ≤ 1000000) (h : normB s = V) :
    Calls Tryd.prog 19 #[.string s] w fun e w' => e = .returned (.bool V) ∧ Below w.heap.size w w' := by
  obtain rfl := h
  exact valid_s s w hs
theorem parent_k (s : ByteArray) (V : ByteArray) (E : Bool) (w : World) (hs : s.size ≤ 1000000) (h : parentV s = V ∧ parentB s = E) :
    Calls Tryd.prog 25 #[.string s] w fun e w' => e = .returned (.tuple #[.string V, .bool E]) ∧ Below w.heap.size w w' := by
  obtain ⟨rfl, rfl⟩ := h
  exact parent_s s w hs
theorem child_k (s : ByteArray) (p : Pr) (V : ByteArray) (E : Int) (w : World) (hs : s.size ≤ 1000000) (h1 : p.1.size ≤ 1000000) (h2 : p.2.size ≤ 1000000) (h : childV s p = V ∧ childE s p = E) :
    Calls Tryd.prog 27 #[.string s, .agg #[.string p.1, .string p.2]] w fun e w' => e = .returned (.tuple #[.string V, .int .i64 E]) ∧ Below w.heap.size w w' := by
  obtain ⟨rfl, rfl⟩ := h
  exact child_s s p w hs h1 h2
theorem rebase_k (s a b : ByteArray) (V : ByteArray) (E : Int) (w : World) (hs : s.size ≤ 1000000) (ha : a.size ≤ 1000000) (hb : b.size ≤ 1000000) (h : rebV s a b = V ∧ rebE s a b = E) :
    Calls Tryd.prog 32 #[.string s, .string a, .string b] w fun e w' => e = .returned (.tuple #[.string V, .int .i64 E]) ∧ Below w.heap.size w w' := by
  obtain ⟨rfl, rfl⟩ := h
  exact rebase_s s a b w hs ha hb
theorem under_k (s b : ByteArray) (V : Bool) (w : World) (hs : s.size ≤ 1000000) (hb : b.size ≤ 1000000) (h : underB s b = V) :
    Calls Tryd.prog 30 #[.string s, .string b] w fun e w' => e = .returned (.bool V) ∧ Below w.heap.size w w' := by
  obtain rfl := h
  exact under_s s b w hs hb
theorem compare_k (s b : ByteArray) (V : Int) (w : World) (hs : s.size ≤ 1000000) (hb : b.size ≤ 1000000) (h : cmpN s b = V) :
    Calls Tryd.prog 34 #[.string s, .string b] w fun e w' => e = .returned (.int .i64 V) ∧ Below w.heap.size w w' := by
  obtain rfl := h
  exact compare_s s b w hs hb
theorem depth_k (s : ByteArray) (n : Nat) (w : World) (hs : s.size ≤ 1000000) (h : (compsV s).length = n) :
    Calls Tryd.prog 20 #[.string s] w fun e w' => e = .returned (.int .i64 (n : Nat)) ∧ Below w.heap.size w w' := by
  obtain rfl := h
  exact depth_s s w hs
theorem format_k (ao : Option Addr) (n cap : Nat) (l : List Pr) (V : ByteArray) (E : Int) (w : World) (hp : PairsAt w ao n cap l) (hsm : Small l) (h : fmtV l = V ∧ fmtE l = E) :
    Calls Tryd.prog 17 #[.slice ao n cap] w fun e w' => e = .returned (.tuple #[.string V, .int .i64 E]) ∧ Below w.heap.size w w' := by
  obtain ⟨rfl, rfl⟩ := h
  exact format_s ao n cap l w hp hsm
theorem rclean_k (s : ByteArray) (V : ByteArray) (E : Int) (w : World) (hs : s.size ≤ 1000000) (h : cleanV s = V ∧ cleanE s = E) :
    Calls Tryd.prog 22 #[.string s] w fun e w' => e = .returned (.tuple #[.string V, .int .i64 E]) ∧ Below w.heap.size w w' := by
  obtain ⟨rfl, rfl⟩ := h
  exact rclean0_s s w hs
theorem rvalid_k (s : ByteArray) (V : Bool) (w : World) (hs : s.size ≤ 1000000) (h : normB s = V) :
    Calls Tryd.prog 24 #[.string s] w fun e w' => e = .returned (.bool V) ∧ Below w.heap.size w w' := by
  obtain rfl := h
  exact rvalid_s s w hs
theorem rparent_k (s : ByteArray) (V : ByteArray) (E : Bool) (w : World) (hs : s.size ≤ 1000000) (h : parentV s = V ∧ parentB s = E) :
    Calls Tryd.prog 26 #[.string s] w fun e w' => e = .returned (.tuple #[.string V, .bool E]) ∧ Below w.heap.size w w' := by
  obtain ⟨rfl, rfl⟩ := h
  exact rparent_s s w hs
theorem rchild_k (s : ByteArray) (p : Pr) (V : ByteArray) (E : Int) (w : World) (hs : s.size ≤ 1000000) (h1 : p.1.size ≤ 1000000) (h2 : p.2.size ≤ 1000000) (h : childV s p = V ∧ childE s p = E) :
    Calls Tryd.prog 28 #[.string s, .agg #[.string p.1, .string p.2]] w fun e w' => e = .returned (.tuple #[.string V, .int .i64 E]) ∧ Below w.heap.size w w' := by
  obtain ⟨rfl, rfl⟩ := h
  exact rchild_s s p w hs h1 h2
theorem rrebase_k (s a b : ByteArray) (V : ByteArray) (E : Int) (w : World) (hs : s.size ≤ 1000000) (ha : a.size ≤ 1000000) (hb : b.size ≤ 1000000) (h : rebV s a b = V ∧ rebE s a b = E) :
    Calls Tryd.prog 33 #[.string s, .string a, .string b] w fun e w' => e = .returned (.tuple #[.string V, .int .i64 E]) ∧ Below w.heap.size w w' := by
  obtain ⟨rfl, rfl⟩ := h
  exact rrebase_s s a b w hs ha hb
theorem runder_k (s b : ByteArray) (V : Bool) (w : World) (hs : s.size ≤ 1000000) (hb : b.size ≤ 1000000) (h : underB s b = V) :
    Calls Tryd.prog 31 #[.string s, .string b] w fun e w' => e = .returned (.bool V) ∧ Below w.heap.size w w' := by
  obtain rfl := h
  exact runder_s s b w hs hb
theorem rcompare_k (s b : ByteArray) (V : Int) (w : World) (hs : s.size ≤ 1000000) (hb : b.size ≤ 1000000) (h : cmpN s b = V) :
    Calls Tryd.prog 35 #[.string s, .string b] w fun e w' => e = .returned (.int .i64 V) ∧ Below w.heap.size w w' := by
  obtain rfl := h
  exact rcompare_s s b w hs hb
theorem rdepth_k (s : ByteArray) (n : Nat) (w : World) (hs : s.size ≤ 1000000) (h : (compsV s).length = n) :
    Calls Tryd.prog 29 #[.string s] w fun e w' => e = .returned (.int .i64 (n : Nat)) ∧ Below w.heap.size w w' := by
  obtain rfl := h
  exact rdepth_s s w hs
theorem rformat_k (ao : Option Addr) (n cap : Nat) (l : List Pr) (V : ByteArray) (E : Int) (w : World) (hp : PairsAt w ao n cap l) (hsm : Small l) (h : fmtV l = V ∧ fmtE l = E) :
    Calls Tryd.prog 18 #[.slice ao n cap] w fun e w' => e = .returned (.tuple #[.string V, .int .i64 E]) ∧ Below w.heap.size w w' := by
  obtain ⟨rfl, rfl⟩ := h
  exact rformat_s ao n cap l w hp hsm
set_option maxRecDepth 100000 in
set_option maxHeartbeats 4000000 in
theorem live_s (w : World) : Calls Tryd.prog 12 #[] w fun e w' => e = .returned (.bool true) ∧ Below w.heap.size w w' := by
  go_enter Tryd.func12, Tryd.ntmps12
  have B0 := Below.refl w.heap.size w
  go_wp2_with fail
  refine (parse_k ⟨#[67, 78, 32, 61, 32, 76, 101, 101, 92, 44, 32, 65, 110, 110, 32, 44, 32, 111, 117, 61, 83, 116, 97, 102, 102]⟩ 0 [(⟨#[67, 78]⟩, ⟨#[76, 101, 101, 44, 32, 65, 110, 110]⟩), (⟨#[111, 117]⟩, ⟨#[83, 116, 97, 102, 102]⟩)] _ (by decide) lit_a).mono ?_
  rintro e w1 ⟨lo, lc, rfl, hl, hb⟩
  have B1 := below_next B0 hb
  have HL := Lib.hid hl
  clear hl hb
  go_wp2_with fail
  refine (clean_k ⟨#[67, 78, 61, 65, 110, 110, 32, 76, 101, 101, 44, 79, 85, 61, 83, 116, 97, 102, 102]⟩ ⟨#[99, 110, 61, 97, 110, 110, 32, 108, 101, 101, 44, 111, 117, 61, 115, 116, 97, 102, 102]⟩ 0 _ (by decide) lit_b).mono ?_
  rintro e w2 ⟨rfl, hb⟩
  have B2 := below_next B1 hb
  have HL := Lib.hid (HL.out.below hb)
  clear hb
  go_wp2_with fail
  refine (parse_k ⟨#[99, 110, 61, 97, 61, 98]⟩ 4 [] _ (by decide) lit_c).mono ?_
  rintro e w3 ⟨lo2, lc2, rfl, hl2, hb⟩
  have B3 := below_next B2 hb
  have HL := Lib.hid (HL.out.below hb)
  clear hl2
  clear hb
  go_wp2_with fail
  refine (parse_k ⟨#[99, 110, 61, 97, 44]⟩ 4 [] _ (by decide) lit_d).mono ?_
  rintro e w4 ⟨lo3, lc3, rfl, hl3, hb⟩
  have B4 := below_next B3 hb
  have HL := Lib.hid (HL.out.below hb)
  clear hl3
  clear hb
  go_wp2_with fail
  refine (parent_k ⟨#[99, 110, 61, 97, 110, 110, 44, 111, 117, 61, 115, 116, 97, 102, 102]⟩ ⟨#[111, 117, 61, 115, 116, 97, 102, 102]⟩ true _ (by decide) lit_e).mono ?_
  rintro e w5 ⟨rfl, hb⟩
  have B5 := below_next B4 hb
  have HL := Lib.hid (HL.out.below hb)
  clear hb
  go_wp2_with fail
  refine (child_k ⟨#[111, 117, 61, 115, 116, 97, 102, 102]⟩ (⟨#[67, 78]⟩, ⟨#[65, 110, 110]⟩) ⟨#[99, 110, 61, 97, 110, 110, 44, 111, 117, 61, 115, 116, 97, 102, 102]⟩ 0 _ (by decide) (by decide) (by decide) lit_f).mono ?_
  rintro e w6 ⟨rfl, hb⟩
  have B6 := below_next B5 hb
  have HL := Lib.hid (HL.out.below hb)
  clear hb
  go_wp2_with fail
  refine (rebase_k ⟨#[99, 110, 61, 97, 110, 110, 44, 111, 117, 61, 115, 116, 97, 102, 102]⟩ ⟨#[111, 117, 61, 115, 116, 97, 102, 102]⟩ ⟨#[111, 117, 61, 112, 101, 111, 112, 108, 101, 44, 111, 61, 120]⟩ ⟨#[99, 110, 61, 97, 110, 110, 44, 111, 117, 61, 112, 101, 111, 112, 108, 101, 44, 111, 61, 120]⟩ 0 _ (by decide) (by decide) (by decide) lit_g).mono ?_
  rintro e w7 ⟨rfl, hb⟩
  have B7 := below_next B6 hb
  have HL := Lib.hid (HL.out.below hb)
  obtain ⟨lb, loff, rfl, hs⟩ := HL.out.2.2.2 (by decide)
  obtain ⟨c0, c1⟩ := hs.2 0 (by decide)
  obtain ⟨d0, d1⟩ := hs.2 1 (by decide)
  rw [show prAt [((⟨#[67, 78]⟩ : ByteArray), (⟨#[76, 101, 101, 44, 32, 65, 110, 110]⟩ : ByteArray)), ((⟨#[111, 117]⟩ : ByteArray), (⟨#[83, 116, 97, 102, 102]⟩ : ByteArray))] 0 = ((⟨#[67, 78]⟩ : ByteArray), (⟨#[76, 101, 101, 44, 32, 65, 110, 110]⟩ : ByteArray)) from rfl] at c0 c1
  rw [show prAt [((⟨#[67, 78]⟩ : ByteArray), (⟨#[76, 101, 101, 44, 32, 65, 110, 110]⟩ : ByteArray)), ((⟨#[111, 117]⟩ : ByteArray), (⟨#[83, 116, 97, 102, 102]⟩ : ByteArray))] 1 = ((⟨#[111, 117]⟩ : ByteArray), (⟨#[83, 116, 97, 102, 102]⟩ : ByteArray)) from rfl] at d0 d1
  simp only [Nat.zero_mul, Nat.add_zero, Nat.one_mul] at c0 c1 d0 d1
  clear hs
  clear hb
  go_wp2_with fail
  refine (valid_k ⟨#[]⟩ true _ (by decide) lit_h).mono ?_
  rintro e w8 ⟨rfl, hb⟩
  have B8 := below_next B7 hb
  clear c0 c1 d0 d1
  clear hb
  go_wp2_with fail
  refine (under_k ⟨#[99, 110, 61, 97, 110, 110, 44, 111, 117, 61, 115, 116, 97, 102, 102]⟩ ⟨#[111, 117, 61, 115, 116, 97, 102, 102]⟩ true _ (by decide) (by decide) lit_i).mono ?_
  rintro e w9 ⟨rfl, hb⟩
  have B9 := below_next B8 hb
  clear hb
  go_wp2_with fail
  refine (under_k ⟨#[111, 117, 61, 115, 116, 97, 102, 102]⟩ ⟨#[99, 110, 61, 97, 110, 110, 44, 111, 117, 61, 115, 116, 97, 102, 102]⟩ false _ (by decide) (by decide) lit_j).mono ?_
  rintro e w10 ⟨rfl, hb⟩
  have B10 := below_next B9 hb
  clear hb
  go_wp2_with fail
  refine (depth_k ⟨#[99, 110, 61, 97, 110, 110, 44, 111, 117, 61, 115, 116, 97, 102, 102]⟩ 2 _ (by decide) lit_k).mono ?_
  rintro e w11 ⟨rfl, hb⟩
  have B11 := below_next B10 hb
  clear hb
  go_wp2_with fail
  refine (compare_k ⟨#[111, 117, 61, 115, 116, 97, 102, 102]⟩ ⟨#[99, 110, 61, 97, 110, 110, 44, 111, 117, 61, 115, 116, 97, 102, 102]⟩ (-1) _ (by decide) (by decide) lit_l).mono ?_
  rintro e w12 ⟨rfl, hb⟩
  have B12 := below_next B11 hb
  clear hb
  go_wp2_with fail
  refine (compare_k ⟨#[99, 110, 61, 97, 110, 110, 44, 111, 117, 61, 115, 116, 97, 102, 102]⟩ ⟨#[111, 117, 61, 116, 101, 109, 112]⟩ (-1) _ (by decide) (by decide) lit_m).mono ?_
  rintro e w13 ⟨rfl, hb⟩
  have B13 := below_next B12 hb
  clear hb
  go_wp2_with fail
  go_ret
  exact ⟨rfl, B13⟩
set_option maxHeartbeats 1000000 in
theorem long_s (s : ByteArray) (w : World) : Calls Tryd.prog 11 #[.string s] w fun e w' => e = .returned (.bool (decide (300 < s.size))) ∧ w = w' := by
  cases c : decide (300 < s.size)
  · have h : ¬ 300 < s.size := of_decide_eq_false c
    have hd : decide ((300 : Int) < (s.size : Int)) = false := decide_eq_false (by omega)
    clear c
    go_enter Tryd.func11, Tryd.ntmps11
    go_wp2
    go_ret
    exact ⟨rfl, rfl⟩
  · have h : 300 < s.size := of_decide_eq_true c
    have hd : decide ((300 : Int) < (s.size : Int)) = true := decide_eq_true (by omega)
    clear c
    go_enter Tryd.func11, Tryd.ntmps11
    go_wp2
    go_ret
    exact ⟨rfl, rfl⟩
theorem long_no (s : ByteArray) (w : World) (h : ¬ 300 < s.size) : Calls Tryd.prog 11 #[.string s] w fun e w' => e = .returned (.bool false) ∧ w = w' :=
  (long_s s w).mono fun e w' k => ⟨by rw [k.1, decide_eq_false h], k.2⟩
theorem long_yes (s : ByteArray) (w : World) (h : 300 < s.size) : Calls Tryd.prog 11 #[.string s] w fun e w' => e = .returned (.bool true) ∧ w = w' :=
  (long_s s w).mono fun e w' k => ⟨by rw [k.1, decide_eq_true h], k.2⟩

end Go.Proofs.YtdjhhofmlefaaaaDoor
