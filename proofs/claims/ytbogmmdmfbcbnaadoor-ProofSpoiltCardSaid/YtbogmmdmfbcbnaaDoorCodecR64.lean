/-
  Plain functions for reading base64 forms, and the contract of codec.ReadBase64. Condition: at most 1000000000 bytes; all of them below 128, or what strings.IndexRune answers above is known.
-/
import Derived.Test.YtbogmmdmfbcbnaaDoorCodecB64
import Derived.Test.YtbogmmdmfbcbnaaDoorCodecIt
import Derived.Test.YtbogmmdmfbcbnaaDoorCodecDec
set_option maxRecDepth 100000
set_option linter.unusedVariables false
set_option linter.unusedSimpArgs false
set_option linter.unnecessarySimpa false
namespace Go.Proofs.YtbogmmdmfbcbnaaDoor
open Go.RowKit Go.PlainAid

/-- the value of a character, or -1 -/
def sixV (c : UInt8) : Int := Lib.indexByte sixS.data.toList c
theorem sixV_range : ∀ n : Nat, n < 256 → -1 ≤ sixV (UInt8.ofNat n) ∧ sixV (UInt8.ofNat n) ≤ 63 ∧ (128 ≤ n → sixV (UInt8.ofNat n) = -1) := by decide +kernel
theorem sixV_le (c : UInt8) : -1 ≤ sixV c ∧ sixV c ≤ 63 := by
  have := sixV_range c.toNat c.toNat_lt
  rw [UInt8.ofNat_toNat] at this
  exact ⟨this.1, this.2.1⟩
theorem sixV_high (c : UInt8) (h : 128 ≤ c.toNat) : sixV c = -1 := by
  have := sixV_range c.toNat c.toNat_lt
  rw [UInt8.ofNat_toNat] at this
  exact this.2.2 h
/-- the bytes that follow, behind 'b', of which 'count' are open -/
def decR : Nat → Nat → List UInt8 → Option (List UInt8)
  | _, b, [] => if b = 0 then some [] else none
  | 0, b, c :: r => if sixV c < 0 then none else decR 6 (b * 64 + (sixV c).toNat) r
  | 6, b, c :: r => if sixV c < 0 then none else (decR 4 ((b * 64 + (sixV c).toNat) % 16) r).map (UInt8.ofNat ((b * 64 + (sixV c).toNat) / 16) :: ·)
  | 4, b, c :: r => if sixV c < 0 then none else (decR 2 ((b * 64 + (sixV c).toNat) % 4) r).map (UInt8.ofNat ((b * 64 + (sixV c).toNat) / 4) :: ·)
  | _, b, c :: r => if sixV c < 0 then none else (decR 0 0 r).map (UInt8.ofNat (b * 64 + (sixV c).toNat) :: ·)
theorem decR_nil (k b : Nat) : decR k b [] = if b = 0 then some [] else none := by cases k <;> rfl
theorem decR_0 (b : Nat) (c : UInt8) (r : List UInt8) : decR 0 b (c :: r) = if sixV c < 0 then none else decR 6 (b * 64 + (sixV c).toNat) r := rfl
theorem decR_6 (b : Nat) (c : UInt8) (r : List UInt8) : decR 6 b (c :: r) = if sixV c < 0 then none else (decR 4 ((b * 64 + (sixV c).toNat) % 16) r).map (UInt8.ofNat ((b * 64 + (sixV c).toNat) / 16) :: ·) := rfl
theorem decR_4 (b : Nat) (c : UInt8) (r : List UInt8) : decR 4 b (c :: r) = if sixV c < 0 then none else (decR 2 ((b * 64 + (sixV c).toNat) % 4) r).map (UInt8.ofNat ((b * 64 + (sixV c).toNat) / 4) :: ·) := rfl
theorem decR_2 (b : Nat) (c : UInt8) (r : List UInt8) : decR 2 b (c :: r) = if sixV c < 0 then none else (decR 0 0 r).map (UInt8.ofNat (b * 64 + (sixV c).toNat) :: ·) := rfl
theorem decR_bad (k b : Nat) (c : UInt8) (r : List UInt8) (h : sixV c < 0) (hk : k = 0 ∨ k = 6 ∨ k = 4 ∨ k = 2) : decR k b (c :: r) = none := by
  rcases hk with rfl | rfl | rfl | rfl
  · rw [decR_0, if_pos h]
  · rw [decR_6, if_pos h]
  · rw [decR_4, if_pos h]
  · rw [decR_2, if_pos h]
def read64 (l : List UInt8) : Option (List UInt8) := if l.length % 4 = 1 then none else decR 0 0 l
def r64S (s : ByteArray) : ByteArray := match read64 s.data.toList with
  | some l => ofL l
  | none => ⟨#[]⟩
def r64E (s : ByteArray) : Int := match read64 s.data.toList with
  | some _ => 0
  | none => 4
/-- what strings.IndexRune answers above -/
def HighIdx : Prop := ∀ (r : Int) (w : World), 128 ≤ r → r ≤ 2147483647 → Calls Tryd.prog 33 #[.string ⟨#[65, 66, 67, 68, 69, 70, 71, 72, 73, 74, 75, 76, 77, 78, 79, 80, 81, 82, 83, 84, 85, 86, 87, 88, 89, 90, 97, 98, 99, 100, 101, 102, 103, 104, 105, 106, 107, 108, 109, 110, 111, 112, 113, 114, 115, 116, 117, 118, 119, 120, 121, 122, 48, 49, 50, 51, 52, 53, 54, 55, 56, 57, 45, 95]⟩, .int .i32 r] w fun e w' => e = .returned (.int .i64 (-1)) ∧ Below w.heap.size w w' ∧ ItKept w w'
theorem low_idx (x : Int) (c : UInt8) (w : World) (hx : x = (c.toNat : Int)) (h : x < 128) :
    Calls Tryd.prog 33 #[.string ⟨#[65, 66, 67, 68, 69, 70, 71, 72, 73, 74, 75, 76, 77, 78, 79, 80, 81, 82, 83, 84, 85, 86, 87, 88, 89, 90, 97, 98, 99, 100, 101, 102, 103, 104, 105, 106, 107, 108, 109, 110, 111, 112, 113, 114, 115, 116, 117, 118, 119, 120, 121, 122, 48, 49, 50, 51, 52, 53, 54, 55, 56, 57, 45, 95]⟩, .int .i32 x] w fun e w' => e = .returned (.int .i64 (sixV c)) ∧ w = w' := by
  refine (Tryd.strings_IndexRune_ascii ⟨#[65, 66, 67, 68, 69, 70, 71, 72, 73, 74, 75, 76, 77, 78, 79, 80, 81, 82, 83, 84, 85, 86, 87, 88, 89, 90, 97, 98, 99, 100, 101, 102, 103, 104, 105, 106, 107, 108, 109, 110, 111, 112, 113, 114, 115, 116, 117, 118, 119, 120, 121, 122, 48, 49, 50, 51, 52, 53, 54, 55, 56, 57, 45, 95]⟩ x w (by omega) h).mono fun e w' k => ⟨?_, k.2.symm⟩
  rw [k.1]
  have e1 : x.toNat.toUInt8 = c := by subst hx; simp
  rw [e1]; rfl

/-- one step of a range over a string whose iterator lies in block B -/
theorem next_low_at (w : World) (B : Nat) (t : ByteArray) (k : Nat) (hk : w.heap[B]? = some (.stringIter t k)) (h : k < t.size) (hc : bt t k < 128) (ty : TypeId) :
    (Instr.next (.pointer (some ⟨B, 0, none⟩)) true ty).run Tryd.prog w = .ok (.tuple #[.bool true, .int .i64 k, .int .i32 (bt t k)]) (w.iterAt B t (k + 1)) := by
  have hb := byte_chr t k h
  rw [Lib.run_next_ascii_at (P := Tryd.prog) w B t k ty hk h (by omega), hb]
theorem next_high_at (w : World) (B : Nat) (t : ByteArray) (k : Nat) (hk : w.heap[B]? = some (.stringIter t k)) (h : k < t.size) (hc : 128 ≤ bt t k) : ∃ (r : Int) (d : Nat), 128 ≤ r ∧ r ≤ 2147483647 ∧ 1 ≤ d ∧ (∀ ty,
    (Instr.next (.pointer (some ⟨B, 0, none⟩)) true ty).run Tryd.prog w = .ok (.tuple #[.bool true, .int .i64 k, .int .i32 r]) (w.iterAt B t (k + d))) := by
  have hb := byte_chr t k h
  have hd := decode_high t k h (by omega)
  have hl := decode_le t k
  exact ⟨((Utf8.decode t k).1 : Int), (Utf8.decode t k).2, by omega, by omega, hd.2, fun ty => Lib.run_next_any_at (P := Tryd.prog) w B t k ty hk h⟩
theorem iterPos_at {w : World} {B : Nat} {t : ByteArray} {p : Nat} (h : w.heap[B]? = some (.stringIter t p)) : w.iterPos B = p := by
  unfold World.iterPos; rw [h]

theorem or_six_table : ∀ a : Nat, a < 64 → ∀ b : Nat, b < 64 → bits BinOp.or IntKind.i64 ((a : Int) * 64) (b : Int) = 64 * (a : Int) + (b : Int) := by decide +kernel
theorem or_six (a b : Int) (a0 : 0 ≤ a) (a1 : a < 64) (b0 : 0 ≤ b) (b1 : b ≤ 63) : bits BinOp.or IntKind.i64 (a * 64) b = 64 * a + b := by
  have := or_six_table a.toNat (by omega) b.toNat (by omega)
  rw [Int.toNat_of_nonneg a0, Int.toNat_of_nonneg b0] at this
  exact this
theorem and15_grid : ∀ a : Nat, a < 256 → ∀ b : Nat, b < 16 → bits BinOp.and IntKind.i64 ((a * 16 + b : Nat) : Int) 15 = (b : Int) := by decide +kernel
theorem and15_big (x : Nat) (h : x < 4096) : bits BinOp.and IntKind.i64 (x : Int) 15 = ((x % 16 : Nat) : Int) := by
  have := and15_grid (x / 16) (by omega) (x % 16) (by omega)
  rwa [show x / 16 * 16 + x % 16 = x by omega] at this
theorem and3_grid : ∀ a : Nat, a < 256 → ∀ b : Nat, b < 4 → bits BinOp.and IntKind.i64 ((a * 4 + b : Nat) : Int) 3 = (b : Int) := by decide +kernel
theorem and3_big (x : Nat) (h : x < 1024) : bits BinOp.and IntKind.i64 (x : Int) 3 = ((x % 4 : Nat) : Int) := by
  have := and3_grid (x / 4) (by omega) (x % 4) (by omega)
  rwa [show x / 4 * 4 + x % 4 = x by omega] at this
theorem and0_big : ∀ x : Nat, x < 256 → bits BinOp.and IntKind.i64 (x : Int) 0 = 0 := by decide +kernel

set_option maxRecDepth 100000 in
set_option maxHeartbeats 4000000 in
theorem readBase64_s (s : ByteArray) (w : World) (hs : s.size ≤ 1000000000) (hh : (∀ j, j < s.size → bt s j < 128) ∨ HighIdx) :
    Calls Tryd.prog 17 #[.string s] w fun e w' => e = .returned (.tuple #[.string (r64S s), .int .i64 (r64E s)]) ∧ Below w.heap.size w w' := by
  have HH := Lib.hid hh; clear hh
  by_cases h1 : s.size % 4 = 1
  · have HF := Lib.hid (show read64 s.data.toList = none by unfold read64; rw [if_pos (by rw [← Lib.size_eq]; exact h1)])
    have hd : ((s.size : Int) % 4 == 1) = true := beq_iff_eq.2 (by omega)
    go_enter Tryd.func17, Tryd.ntmps17
    go_wp2
    go_ret2
    exact ⟨by unfold r64S r64E; rw [HF.out]; rfl, Below.refl _ _⟩
  · have HR := Lib.hid (show read64 s.data.toList = decR 0 0 s.data.toList by unfold read64; rw [if_neg (by rw [← Lib.size_eq]; exact h1)])
    have hd : ((s.size : Int) % 4 == 1) = false := beq_false_of_ne (by omega)
    clear h1
    have HN := Lib.hid (bld_new w)
    go_enter Tryd.func17, Tryd.ntmps17
    go_wp2
    go_loopw [5, 6] (fun bv cv wr => ∃ (i c b : Nat) (out : List UInt8), i ≤ s.size ∧ bv = .int .i64 b ∧ cv = .int .i64 c ∧ (c = 0 ∧ b < 1 ∨ c = 6 ∧ b < 64 ∨ c = 4 ∧ b < 16 ∨ c = 2 ∧ b < 4) ∧ out.length ≤ i ∧
        Hid (read64 s.data.toList = (decR c b (s.data.toList.drop i)).map (out ++ ·)) ∧ Bld w.heap.size w.heap.size out wr ∧ Below w.heap.size w wr ∧ wr.heap[w.heap.size + 1]? = some (.stringIter s i))
      (fun _ _ wr => s.size - wr.iterPos (w.heap.size + 1))
    case atStart => exact ⟨0, 0, 0, [], Nat.zero_le _, rfl, rfl, .inl ⟨rfl, by omega⟩, by simp, Lib.hid (by rw [HR.out]; simp), HN.out.below ((Below.refl _ _).alloc (Nat.le_refl _) _),
      ((Below.refl w.heap.size w).alloc (Nat.le_refl _) _).alloc (by simp) _, by have := World.iter_heap (w.alloc (.cells #[.pointer none, .slice none 0 0] 50)) s 0; rwa [World.size_alloc] at this⟩
    case round =>
      obtain ⟨i, c, b, out, hi, rfl, rfl, hcb, hol, HU, HB, hbel, hit⟩ := hrel
      have HIT := Lib.hid hit
      by_cases hlt : i < s.size
      · have h0 := bt_nonneg s i
        have h255 := bt_le s i
        have HD := Lib.hid (drop_chr s i hlt)
        have HC := Lib.hid (bt_chr s i)
        by_cases h128 : bt s i < 128
        · have hnx := next_low_at wr (w.heap.size + 1) s i hit hlt h128
          have hv := sixV_le (chr s i)
          have HB0 := Lib.hid (HB.iterAt (p' := i + 1) hit)
          have HL0 := Lib.hid (below_iterAt (p := i + 1) hbel (show w.heap.size ≤ w.heap.size + 1 by omega) (s := s))
          have HI0 := Lib.hid (Lib.iterAt_heap wr (w.heap.size + 1) s i (i + 1) hit)
          obtain ⟨v, hve⟩ : ∃ v, v = sixV (chr s i) := ⟨_, rfl⟩
          have HV := Lib.hid hve
          rw [← hve] at hv
          clear hve hit
          by_cases hv0 : v < 0
          · have HF := Lib.hid (show read64 s.data.toList = none by
              have hx : sixV (chr s i) < 0 := by rw [← HV.out]; exact hv0
              rw [HU.out, HD.out]
              rw [decR_bad c b _ _ hx (by omega)]; rfl)
            go_wp2_with (go_at_call 33; refine (low_idx _ (chr s i) _ HC.out h128).mono ?_; rintro e w' ⟨rfl, rfl⟩; rw [← HV.out])
            go_ret2
            exact ⟨by unfold r64S r64E; rw [HF.out]; rfl, HL0.out⟩
          · obtain ⟨n, hn⟩ : ∃ n : Nat, v = (n : Int) := ⟨v.toNat, by omega⟩
            subst hn
            have hnl : n ≤ 63 := by omega
            have hor0 := or_six b n (by omega) (by omega) (by omega) (by omega)
            obtain ⟨x, hxe⟩ : ∃ x : Nat, x = b * 64 + n := ⟨_, rfl⟩
            have hor : bits BinOp.or IntKind.i64 ((b : Int) * 64) (n : Int) = (x : Int) := by rw [hor0]; omega
            clear hor0
            have HX := Lib.hid (show b * 64 + (sixV (chr s i)).toNat = x by rw [← HV.out, hxe]; rfl)
            have HP := Lib.hid (show ¬ sixV (chr s i) < 0 by rw [← HV.out]; omega)
            rcases hcb with ⟨rfl, hbl⟩ | ⟨rfl, hbl⟩ | ⟨rfl, hbl⟩ | ⟨rfl, hbl⟩
            · have hxl : x < 64 := by omega
              clear hxe
              have HS := Lib.hid (show decR 0 b (s.data.toList.drop i) = decR 6 x (s.data.toList.drop (i + 1)) by
                rw [HD.out, decR_0, if_neg HP.out, HX.out])
              go_wp2_with (go_at_call 33; refine (low_idx _ (chr s i) _ HC.out h128).mono ?_; rintro e w' ⟨rfl, rfl⟩; rw [← HV.out])
              go_roundw
              case rel => exact ⟨i + 1, 6, x, out, by omega, rfl, rfl, .inr (.inl ⟨rfl, hxl⟩), by omega, Lib.hid (by rw [HU.out, HS.out]), HB0.out, HL0.out, HI0.out⟩
              case measure => rw [iterPos_at HI0.out, iterPos_at HIT.out]; omega
            · have hxl : x < 4096 := by omega
              clear hxe
              have HS := Lib.hid (show decR 6 b (s.data.toList.drop i) = (decR 4 (x % 16) (s.data.toList.drop (i + 1))).map (UInt8.ofNat (x / 16) :: ·) by
                rw [HD.out, decR_6, if_neg HP.out, HX.out])
              have hand := and15_big x hxl
              have HQ := Lib.hid (show (x : Int) / 16 = ((UInt8.ofNat (x / 16)).toNat : Int) by rw [UInt8.toNat_ofNat']; omega)
              go_wp2_with (go_at_call 33; refine (low_idx _ (chr s i) _ HC.out h128).mono ?_; rintro e w' ⟨rfl, rfl⟩; rw [← HV.out])
              refine (writeByte_it w.heap.size w.heap.size _ (UInt8.ofNat (x / 16)) _ _ HB0.out HQ.out (by omega) HL0.out.size).mono ?_
              rintro e w1 ⟨rfl, HB1, hbl1, hik⟩
              have HI1 := Lib.hid (hik _ _ _ HI0.out)
              clear hik
              go_wp2_with fail
              go_roundw
              case rel => exact ⟨i + 1, 4, (x % 16), out ++ [UInt8.ofNat (x / 16)], by omega, rfl, rfl, .inr (.inr (.inl ⟨rfl, by omega⟩)), by simp; omega, Lib.hid (by rw [HU.out, HS.out, Option.map_map]; congr 1; funext l; simp), HB1, HL0.out.trans hbl1, HI1.out⟩
              case measure => rw [iterPos_at HI1.out, iterPos_at HIT.out]; omega
            · have hxl : x < 1024 := by omega
              clear hxe
              have HS := Lib.hid (show decR 4 b (s.data.toList.drop i) = (decR 2 (x % 4) (s.data.toList.drop (i + 1))).map (UInt8.ofNat (x / 4) :: ·) by
                rw [HD.out, decR_4, if_neg HP.out, HX.out])
              have hand := and3_big x hxl
              have HQ := Lib.hid (show (x : Int) / 4 = ((UInt8.ofNat (x / 4)).toNat : Int) by rw [UInt8.toNat_ofNat']; omega)
              go_wp2_with (go_at_call 33; refine (low_idx _ (chr s i) _ HC.out h128).mono ?_; rintro e w' ⟨rfl, rfl⟩; rw [← HV.out])
              refine (writeByte_it w.heap.size w.heap.size _ (UInt8.ofNat (x / 4)) _ _ HB0.out HQ.out (by omega) HL0.out.size).mono ?_
              rintro e w1 ⟨rfl, HB1, hbl1, hik⟩
              have HI1 := Lib.hid (hik _ _ _ HI0.out)
              clear hik
              go_wp2_with fail
              go_roundw
              case rel => exact ⟨i + 1, 2, (x % 4), out ++ [UInt8.ofNat (x / 4)], by omega, rfl, rfl, .inr (.inr (.inr ⟨rfl, by omega⟩)), by simp; omega, Lib.hid (by rw [HU.out, HS.out, Option.map_map]; congr 1; funext l; simp), HB1, HL0.out.trans hbl1, HI1.out⟩
              case measure => rw [iterPos_at HI1.out, iterPos_at HIT.out]; omega
            · have hxl : x < 256 := by omega
              clear hxe
              have HS := Lib.hid (show decR 2 b (s.data.toList.drop i) = (decR 0 0 (s.data.toList.drop (i + 1))).map (UInt8.ofNat x :: ·) by
                rw [HD.out, decR_2, if_neg HP.out, HX.out])
              have hand := and0_big x hxl
              have HQ := Lib.hid (show (x : Int) = ((UInt8.ofNat x).toNat : Int) by rw [UInt8.toNat_ofNat']; omega)
              go_wp2_with (go_at_call 33; refine (low_idx _ (chr s i) _ HC.out h128).mono ?_; rintro e w' ⟨rfl, rfl⟩; rw [← HV.out])
              refine (writeByte_it w.heap.size w.heap.size _ (UInt8.ofNat x) _ _ HB0.out HQ.out (by omega) HL0.out.size).mono ?_
              rintro e w1 ⟨rfl, HB1, hbl1, hik⟩
              have HI1 := Lib.hid (hik _ _ _ HI0.out)
              clear hik
              go_wp2_with fail
              go_roundw
              case rel => exact ⟨i + 1, 0, 0, out ++ [UInt8.ofNat x], by omega, rfl, rfl, .inl ⟨rfl, by omega⟩, by simp; omega, Lib.hid (by rw [HU.out, HS.out, Option.map_map]; congr 1; funext l; simp), HB1, HL0.out.trans hbl1, HI1.out⟩
              case measure => rw [iterPos_at HI1.out, iterPos_at HIT.out]; omega
        · obtain ⟨r, d, hr, hr2, hd1, hnx⟩ := next_high_at wr (w.heap.size + 1) s i hit hlt (by omega)
          have HL0 := Lib.hid (below_iterAt (p := i + d) hbel (show w.heap.size ≤ w.heap.size + 1 by omega) (s := s))
          have HF := Lib.hid (show read64 s.data.toList = none by
            have hx : sixV (chr s i) < 0 := by rw [sixV_high _ (by rw [HC.out] at h128; omega)]; decide
            rw [HU.out, HD.out]
            rw [decR_bad c b _ _ hx (by omega)]; rfl)
          have HI : Hid HighIdx := by
            rcases HH.out with h | h
            · exact absurd (h i hlt) h128
            · exact h
          clear hit
          go_wp2_with (go_at_call 33; refine (HI.out r _ hr hr2).mono ?_; rintro e w1 ⟨rfl, hb1, _⟩)
          go_ret2
          exact ⟨by unfold r64S r64E; rw [HF.out]; rfl, HL0.out.trans (hb1.mono HL0.out.size)⟩
      · have hnx : ∀ ty, (Instr.next (.pointer (some ⟨w.heap.size + 1, 0, none⟩)) true ty).run Tryd.prog wr = _ := fun ty => Lib.run_next_end_at wr (w.heap.size + 1) s i ty hit hlt
        have HT := Lib.hid (show s.data.toList.drop i = [] by rw [List.drop_eq_nil_iff]; simp; omega)
        clear hit
        by_cases hb0 : b = 0
        · have HF := Lib.hid (show read64 s.data.toList = some out by
            rw [HU.out, HT.out]
            rw [decR_nil, if_pos hb0]; simp)
          subst hb0
          go_wp2_with (go_at_call 35; refine (string_s w.heap.size w.heap.size _ _ HB hbel.size).mono ?_; rintro e w1 ⟨rfl, hb1⟩)
          go_ret2
          exact ⟨by unfold r64S r64E; rw [HF.out]; rfl, hbel.trans hb1⟩
        · have HF := Lib.hid (show read64 s.data.toList = none by
            rw [HU.out, HT.out]
            rw [decR_nil, if_neg hb0]; rfl)
          have hbn : ((b : Int) != 0) = true := by simp; omega
          go_wp2
          go_ret2
          exact ⟨by unfold r64S r64E; rw [HF.out]; rfl, hbel⟩

end Go.Proofs.YtbogmmdmfbcbnaaDoor
