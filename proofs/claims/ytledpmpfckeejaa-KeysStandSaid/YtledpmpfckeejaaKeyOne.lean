/- What the document's One answers: a right value's bytes. -/
import Derived.Test.YtledpmpfckeejaaKeyPut
namespace Go.Proofs.Ytledpmpfckeejaa.Key
open Go.RowKit Go.Proofs.Ytledpmpfckeejaa.Mem Go.Proofs.Ytledpmpfckeejaa.Right
set_option linter.unusedVariables false

theorem Made.base {B : Nat} {W W1 w' : World} {v : Value} {l : List UInt8} (h : Made W1.heap.size W1 v l w') (hb : Below B W W1) (hB : B ≤ W1.heap.size) : Made B W v l w' := by
  refine ⟨?_, hb.trans (h.2.1.mono hB), Nat.le_trans hB h.2.2⟩
  obtain ⟨h1, h2⟩ := h.1
  refine ⟨h1, ?_⟩
  rcases h2 with h2 | ⟨g, cap, cur, e, hg, rest⟩
  · exact .inl h2
  · exact .inr ⟨g, cap, cur, e, by omega, rest⟩
theorem Made.at_ {B : Nat} {W w' : World} {g : Nat} {arr : Array Value} {cs : List UInt8} {m : Nat} (hb : Below B W w') (hB : B ≤ g) (hh : w'.heap[g]? = some (.cells arr 5 (0, 0))) (harr : arr.toList = bys cs) (hm : cs.length = m) (hs : m ≤ 1000000) :
    Made B W (.slice (some ⟨g, 0, none⟩) m m) cs w' := by
  have hlt : g < w'.heap.size := by
    rcases Nat.lt_or_ge g w'.heap.size with h3 | h3
    · exact h3
    · rw [Array.getElem?_eq_none h3] at hh; cases hh
  have hsz : arr.size = m := by rw [← Array.length_toList, harr, bys_len, hm]
  refine ⟨⟨by rw [bys_len]; omega, .inr ⟨g, m, arr, by rw [hm], hB, hh, by omega, by unfold maxLen; omega, by omega, ?_⟩⟩, hb, by omega⟩
  rw [harr, List.take_of_length_le (by rw [bys_len]; omega)]
theorem lit_new (w : World) (o o' : Obj) {g : Nat} (hg : w.heap.size + 1 = g) : ((w.alloc o).alloc o').heap[g]? = some o' := by
  subst hg; exact lit_at w o o'

theorem make9 (w : World) : (Instr.makeSlice 25 (.int .i64 9) (.int .i64 9)).run Try.prog w = .ok (.slice (some ⟨w.heap.size, 0, none⟩) 9 9) (w.alloc (.cells #[.int .u8 0, .int .u8 0, .int .u8 0, .int .u8 0, .int .u8 0, .int .u8 0, .int .u8 0, .int .u8 0, .int .u8 0] 5)) := by kernel_rfl

/-- Block g is a row of bytes, with the cells cs, and may be written. -/
def Byt (w : World) (g : Nat) (cs : Array Value) : Prop := w.heap[g]? = some (.cells cs 5 (0, 0))
theorem Byt.at_cell {w : World} {g : Nat} {cs : Array Value} (h : Byt w g cs) (i : Nat) : w.cell? ⟨g, i, none⟩ = cs[i]? :=
  cell_of_row w g i cs _ _ h
theorem Byt.open_ {w : World} {g : Nat} {cs : Array Value} (h : Byt w g cs) (i : Nat) : w.frozen? ⟨g, i, none⟩ = false := by
  have h' : w.heap[g]? = some (.cells cs 5 (0, 0)) := h
  simp only [World.frozen?, h']
  simp
theorem Byt.put {w : World} {g : Nat} {cs : Array Value} (h : Byt w g cs) (i : Nat) (v : Value) : Byt (w.setCell ⟨g, i, none⟩ v) g (cs.setIfInBounds i v) := by
  have h' : w.heap[g]? = some (.cells cs 5 (0, 0)) := h
  show (w.heap.modify g _)[g]? = _
  rw [Array.getElem?_modify, h']
  simp
/-- Filled from the end, as far as place k. -/
def part9 (l : List UInt8) (k : Nat) : Array Value := (bys [2] ++ (List.replicate k (Value.int .u8 0) ++ bys (l.drop k))).toArray
theorem part9_size {l : List UInt8} {k : Nat} (h : l.length = 8) (hk : k ≤ 8) : (part9 l k).size = 9 := by
  unfold part9; simp [bys_len]; omega
theorem part9_start {l : List UInt8} (h : l.length = 8) : part9 l 8 = #[.int .u8 2, .int .u8 0, .int .u8 0, .int .u8 0, .int .u8 0, .int .u8 0, .int .u8 0, .int .u8 0, .int .u8 0] := by
  unfold part9; rw [List.drop_eq_nil_of_le (by omega)]; rfl
theorem part9_full (l : List UInt8) : (part9 l 0).toList = bys (2 :: l) := by
  unfold part9; simp [bys]
theorem part9_put {l : List UInt8} {k : Nat} {c : UInt8} (h : l.length = 8) (hk : k < 8) (hc : l[k]? = some c) : (part9 l (k + 1)).setIfInBounds (k + 1) (.int .u8 (c.toNat : Int)) = part9 l k := by
  obtain ⟨hk', e⟩ := List.getElem?_eq_some_iff.1 hc
  apply Array.ext'
  unfold part9
  rw [Array.toList_setIfInBounds]
  simp only
  rw [List.set_append_right _ _ (by simp [bys_len]), List.drop_eq_getElem_cons hk', e, bys_len]
  simp only [List.length_cons, List.length_nil, Nat.zero_add, Nat.add_sub_cancel]
  rw [List.replicate_succ', List.append_assoc, List.set_append_right _ _ (by simp)]
  simp [bys]
theorem quo_step (M k : Nat) (hk : k < 8) : M / 256 ^ (8 - (k + 1)) / 256 = M / 256 ^ (8 - k) := by
  rw [Nat.div_div_eq_div_mul, ← Nat.pow_succ, show (8 - (k + 1)).succ = 8 - k by omega]
theorem quo_cast (X : Nat) : Value.int .u64 ((X : Int) / 256) = .int .u64 ((X / 256 : Nat) : Int) := by
  have e : (X : Int) / 256 = ((X / 256 : Nat) : Int) := by omega
  rw [e]
theorem rem_byte {M X k : Nat} (hX : X = M / 256 ^ (8 - (k + 1))) : ((X : Int) % 256) = ((UInt8.ofNat (M / 256 ^ (8 - 1 - k))).toNat : Int) := by
  rw [ofNat_toNat, hX, show 8 - (k + 1) = 8 - 1 - k by omega]
  omega

set_option maxHeartbeats 1000000 in
theorem one_int (n : Int) (s : ByteArray) (w : World) (hn : -9223372036854775808 ≤ n) (hn' : n ≤ 9223372036854775807) :
    Calls Try.prog 20 #[.agg #[.int .i64 1, .int .i64 n, .string s]] w (Left w.heap.size w (one 1 n s.data.toList)) := by
  have hw := wrap_m64 hn hn'
  have hMl := m64_lt hn hn'
  obtain ⟨M, hM⟩ : ∃ M, m64 n = M := ⟨_, rfl⟩
  have HO := Lib.hid (show one 1 n s.data.toList = 2 :: beN 8 M by rw [one_1, hM])
  rw [hM] at hw hMl
  have hml : M ≤ 18446744073709551615 := by have : (256 : Nat) ^ 8 = 18446744073709551616 := by decide
                                            omega
  have HLen := Lib.hid (beN_len 8 M)
  have HML := Lib.hid hml
  have hmk := make9
  clear hM hMl hml
  go_enter Try.func20, Try.ntmps20
  go_wp2
  go_loopw [3, 5] (fun x i wr => ∃ k X : Nat, k ≤ 8 ∧ i = .int .i64 k ∧ x = .int .u64 X ∧ X ≤ 18446744073709551615 ∧ Hid (X = M / 256 ^ (8 - k)) ∧ Hid (Byt wr (w.heap.size + 1) (part9 (beN 8 M) k)) ∧ Hid (Below w.heap.size w wr)) (fun _ i _ => (intOf i).toNat)
  case atStart => exact ⟨8, M, by decide, rfl, rfl, HML.out, Lib.hid (by simp), Lib.hid (by rw [part9_start HLen.out]; exact lit_at w _ _), Lib.hid (al (al (Below.refl _ _) _) _)⟩
  case round =>
    obtain ⟨k, X, hk, rfl, rfl, hX, HX, HA, HB⟩ := hrel
    by_cases hlt : 0 < k
    · obtain ⟨j, rfl⟩ : ∃ j, k = j + 1 := ⟨k - 1, by omega⟩
      have hfz := HA.out.open_ (j + 1)
      obtain ⟨x, hx⟩ : ∃ x, wr.cell? ⟨w.heap.size + 1, j + 1, none⟩ = some x := by
        rw [HA.out.at_cell (j + 1), Array.getElem?_eq_getElem (by rw [part9_size HLen.out hk]; omega)]; exact ⟨_, rfl⟩
      go_wp2
      go_roundw
      case rel =>
        refine ⟨j, X / 256, by omega, rfl, quo_cast X, by omega, Lib.hid ?_, Lib.hid ?_, Lib.hid (HB.out.setCell (by simp) _)⟩
        · rw [HX.out, quo_step M j (by omega)]
        · rw [rem_byte HX.out, ← part9_put HLen.out (by omega) (beN_at 8 M j (by omega))]
          exact HA.out.put _ _
      case measure => simp [intOf]
    · obtain rfl : k = 0 := by omega
      have HP := Lib.hid (Made.at_ HB.out (Nat.le_succ _) HA.out (part9_full _) (by rw [List.length_cons, HLen.out]) (by decide))
      go_wp2
      go_ret
      exact ⟨_, rfl, by rw [HO.out]; exact HP.out⟩
set_option maxHeartbeats 1000000 in
theorem one_bool (n : Int) (s : ByteArray) (w : World) (hn : n = 0 ∨ n = 1) :
    Calls Try.prog 20 #[.agg #[.int .i64 2, .int .i64 n, .string s]] w (Left w.heap.size w (one 2 n s.data.toList)) := by
  have hwn : IntKind.u8.wrap n = n := by rcases hn with h | h <;> rw [h] <;> rfl
  have HC := Lib.hid (show [Value.int .u8 3, Value.int .u8 n] = bys [3, UInt8.ofNat n.toNat] by rcases hn with h | h <;> rw [h] <;> rfl)
  clear hn
  go_enter Try.func20, Try.ntmps20
  go_wp2
  go_ret
  exact ⟨_, rfl, Made.at_ (al (al (Below.refl _ _) _) _) (Nat.le_succ _) (lit_at w _ _) HC.out rfl (by decide)⟩
theorem one_null (n : Int) (s : ByteArray) (w : World) :
    Calls Try.prog 20 #[.agg #[.int .i64 0, .int .i64 n, .string s]] w (Left w.heap.size w (one 0 n s.data.toList)) := by
  go_enter Try.func20, Try.ntmps20
  go_wp2
  go_ret
  exact ⟨_, rfl, Made.at_ (al (al (Below.refl _ _) _) _) (Nat.le_succ _) (lit_at w _ _) rfl rfl (by decide)⟩
theorem text_snoc (s : ByteArray) (k : Nat) (h : k < s.size) : (4 :: s.data.toList.take k) ++ [s[k]] = 4 :: s.data.toList.take (k + 1) := by
  rw [take_snoc s k h]; rfl
set_option maxHeartbeats 1000000 in
theorem one_text (n : Int) (s : ByteArray) (w : World) (hs : s.size ≤ 1000) :
    Calls Try.prog 20 #[.agg #[.int .i64 3, .int .i64 n, .string s]] w (Left w.heap.size w (one 3 n s.data.toList)) := by
  obtain ⟨W1, hW1⟩ : ∃ W1, w.alloc (.cells #[.int .i64 3, .int .i64 n, .string s] 37) = W1 := ⟨_, rfl⟩
  have hB := Box.made w 3 n s
  have hz : W1.heap.size = w.heap.size + 1 := by rw [← hW1]; simp
  rw [hW1] at hB
  have HB := Lib.hid hB
  have HZ := Lib.hid hz
  have HW := Lib.hid (show Below w.heap.size w W1 by rw [← hW1]; exact al (Below.refl _ _) _)
  have HW1 := Lib.hid hW1
  clear hB hz hW1
  go_enter Try.func20, Try.ntmps20
  go_wp2
  rw [HW1.out]
  have HS := Lib.hid (show Made W1.heap.size W1 (.slice (some ⟨w.heap.size + 1, 0, none⟩) 1 1) [4] (W1.alloc (.cells #[.int .u8 4] 5)) from
    Made.at_ (al (Below.refl _ _) _) (by rw [HZ.out]; exact Nat.le_refl _) (by rw [← HZ.out]; exact heap_alloc_new _ _) rfl rfl (by decide))
  go_loopw [6, 7] (fun b i wr => ∃ k : Nat, k ≤ s.size ∧ i = .int .i64 k ∧ Hid (Made W1.heap.size W1 b (4 :: s.data.toList.take k) wr)) (fun _ i _ => s.size - (intOf i).toNat)
  case atStart => exact ⟨0, Nat.zero_le _, rfl, HS⟩
  case round =>
    obtain ⟨k, hk, rfl, HM⟩ := hrel
    obtain ⟨c0, c1, c2⟩ := (HB.out.below HM.out.2.1).cells
    by_cases hlt : k < s.size
    · have HL := Lib.hid (show (4 :: s.data.toList.take k).length + 1 ≤ 2000000 by
        have := List.length_take_le k s.data.toList
        simp only [List.length_cons]; omega)
      go_wp2_with (at_builtin; refine wp_lit HM.out [s[k]] rfl (.tmp 48) (.tmp 53) rfl rfl rfl rfl rfl rfl HL.out ?_; intro v' w' m1 _ _; rw [text_snoc s k hlt] at m1; have HM1 := Lib.hid m1; clear m1)
      go_roundw
      case rel => exact ⟨k + 1, by omega, by go_num, HM1⟩
      case measure => simp [intOf]; omega
    · have HL := Lib.hid (show (4 :: s.data.toList.take k).length + 1 ≤ 2000000 by
        have := List.length_take_le k s.data.toList
        simp only [List.length_cons]; omega)
      have HE := Lib.hid (show s.data.toList.take k = s.data.toList by
        rw [List.take_of_length_le (by rw [Array.length_toList]; show s.size ≤ k; omega)])
      go_wp2_with (at_builtin; refine wp_lit HM.out [0] rfl (.tmp 55) (.tmp 56) rfl rfl rfl rfl rfl rfl HL.out ?_; intro v' w' m1 _ _; rw [HE.out] at m1; have HM1 := Lib.hid m1; clear m1)
      go_ret
      exact ⟨_, rfl, HM1.out.base HW.out (by rw [HZ.out]; exact Nat.le_succ _)⟩

/-- A right value's bytes, by the document. -/
theorem one_any (u : Vl) (w : World) (hu : u.ok = true) (hf : Vl.fits u) :
    Calls Try.prog 20 #[.agg #[.int .i64 u.k, .int .i64 u.n, .string u.s]] w (Left w.heap.size w (Vl.one u)) := by
  rcases ok_cases hu with ⟨hk, _, _⟩ | ⟨hk, _⟩ | ⟨hk, hn, _⟩ | ⟨hk, _, hs, _⟩
  · have := one_null u.n u.s w
    unfold Vl.one; rw [hk]; exact this
  · have := one_int u.n u.s w hf.1 hf.2
    unfold Vl.one; rw [hk]; exact this
  · have := one_bool u.n u.s w hn
    unfold Vl.one; rw [hk]; exact this
  · have hsz : u.s.size ≤ 1000 := by
      have : u.l.length = u.s.size := by unfold Vl.l; rw [Array.length_toList]; rfl
      omega
    have := one_text u.n u.s w hsz
    unfold Vl.one; rw [hk]; exact this
end Go.Proofs.Ytledpmpfckeejaa.Key
