/- A copy of bytes; a page laid anew. -/
import Derived.Test.YthcilmlaoddckaaPageCheck
import Derived.Test.YthcilmlaoddckaaPageBlk
import Derived.Deep.RegionLaw
namespace Go.Proofs.Ythcilmlaoddckaa.Pg
open Go.RowKit Go.Proofs.Ythcilmlaoddckaa.Mem Go.Proofs.Ythcilmlaoddckaa.Right
set_option linter.unusedVariables false

set_option maxHeartbeats 1000000 in
theorem clone_any (b o n c : Nat) (l : List UInt8) (w : World) (h : Bs w (some ⟨b, o, none⟩) n c l) (hn : n ≤ 1000000) :
    Calls Try.prog 48 #[.slice (some ⟨b, o, none⟩) n c] w fun e w' => ∃ v, e = .returned v ∧ Made w.heap.size w v l w' := by
  have heq : ∀ wx : World, (binOp .eql 32 (.slice (some ⟨b, o, none⟩) n c) (.slice none 0 0)).run Try.prog wx = .ok (.bool false) wx := fun wx => Lib.run_eql_slice_nil wx _ _ _ _ _ _ _ Try.underlying32
  have H := Lib.hid h
  have hl : l.length = n := h.2.1
  have HL := Lib.hid hl
  have M0 : Hid (Made w.heap.size w (.slice (some ⟨w.heap.size, 0, none⟩) 0 0) [] (w.alloc (.cells #[] 5))) := Lib.hid (Made.at_ (al (Below.refl _ _) _) (Nat.le_refl _) (heap_alloc_new w _) rfl rfl (by decide))
  have HR : Hid (Row (w.alloc (.cells #[] 5)) w.heap.size (some ⟨b, o, none⟩) (bys l)) := Lib.hid (h.1.below (al (Below.refl _ _) _) (Nat.le_refl _))
  have hsz : ([] : List UInt8).length + n ≤ 2000000 := by simp; omega
  have HS := Lib.hid hsz
  clear hsz h hl
  go_enter Try.func48, Try.ntmps48
  go_wp2_with (at_builtin; refine wp_src M0.out HR.out HL.out (fun e => by cases e) (.tmp 5) (.tmp 6) rfl rfl rfl rfl HS.out ?_; intro v' w1 m1; obtain ⟨A1, n1, k1, rfl⟩ := made_slice m1; have HM := Lib.hid m1; clear m1)
  go_ret
  exact ⟨_, rfl, HM.out⟩
theorem below_grown {B g : Nat} {w W W' : World} (h : Below B w W) (hg : W.grownBy W' (some g)) (hB : B ≤ g) (hs : B ≤ w.heap.size := by exact Nat.le_refl _) : Below B w W' :=
  h.grown hg (Nat.le_trans hs h.size) (fun j e => by cases e; exact hB)
theorem infoU8 : (Try.prog.info? 5).map (·.size) = some 1 := by kernel_rfl
theorem src_at {w : World} {B : Nat} {A : Option Addr} {l : List UInt8} (h : Row w B A (bys l)) (h0 : 0 < l.length) : ∃ ad, A = some ad ∧ ∀ j v, (bys l)[j]? = some v → w.cell? (ad.add j) = some v := by
  obtain ⟨b, o, x, rfl, _⟩ := h.byte (k := 0) h0
  refine ⟨_, rfl, fun j v hv => ?_⟩
  obtain ⟨b', o', e, _, hc⟩ := h j v hv
  injection e with e
  injection e with e1 e2
  subst e1 e2
  have e2 : (⟨b, o, none⟩ : Addr).add j = ⟨b, o + j, none⟩ := by unfold Addr.add; split <;> simp_all
  rw [e2]; exact hc
theorem blk_src {w : World} {g F k : Nat} {L cs : List UInt8} {ex : List Value} (h : Blk w g L ex) (hc : (L.drop F).take k = cs) (j : Nat) (v : Value) (hv : (bys cs)[j]? = some v) : w.cell? ((⟨g, F, none⟩ : Addr).add j) = some v := by
  have e2 : (⟨g, F, none⟩ : Addr).add j = ⟨g, F + j, none⟩ := by unfold Addr.add; split <;> simp_all
  unfold bys at hv
  rw [List.getElem?_map] at hv
  obtain ⟨x, hx, rfl⟩ := Option.map_eq_some_iff.1 hv
  rw [e2]
  refine h.at_cell ?_
  rw [← hc, List.getElem?_take] at hx
  split at hx
  · rwa [List.getElem?_drop] at hx
  · cases hx
set_option maxRecDepth 100000 in
set_option maxHeartbeats 2000000 in
theorem lay_any (b o c m c2 : Nat) (A2 : Option Addr) (S S1 S2 : List Sl) (s : Sl) (d : List UInt8) (f : Bool) (to : Nat) (w : World) (h : Pag w (some ⟨b, o, none⟩) c S) (hd : Bs w A2 m c2 d)
    (hT : pg S = pgn S.length (S1 ++ s :: S2)) (htot : tot S = tot S1 + ln s + tot S2) (hSl : S.length ≤ S1.length + 1 + S2.length) (hSl1 : S1.length ≤ S.length) (hto : to = 512 - tot S1)
    (hr1 : 2 + 2 * (S1.length + 1 + S2.length) + (tot S1 + ln s + tot S2) ≤ 512) (hr2 : 2 + 2 * (S1.length + 1 + S2.length) + (tot S1 + d.length + tot S2) ≤ 512) :
    Calls Try.prog 53 #[.slice (some ⟨b, o, none⟩) 512 c, .int .i64 (S1.length : Int), .agg #[.bool f, .int .i64 (to - ln s : Nat), .int .i64 to], .slice A2 m c2] w fun e w' => ∃ v, e = .returned v ∧ Made w.heap.size w v (pgn (max S.length (S1.length + 1)) (S1 ++ some d :: S2)) w' := by
  have hdm : d.length = m := hd.2.1
  obtain ⟨F, hF⟩ : ∃ F, 512 - tot S = F := ⟨_, rfl⟩
  obtain ⟨K, hK⟩ : ∃ K, to - ln s = K := ⟨_, rfl⟩
  obtain ⟨M, hM⟩ : ∃ M, F + ln s - m = M := ⟨_, rfl⟩
  obtain ⟨E, hE⟩ : ∃ E, to - m = E := ⟨_, rfl⟩
  have hW0 := al (Below.refl w.heap.size w) (.cells #[.bool f, .int .i64 K, .int .i64 to] 97)
  have HG := Lib.hid (gap_any (some ⟨b, o, none⟩) c S _ (h.below hW0))
  rw [hF] at HG
  rw [hK]
  have HB0 := Lib.hid hW0
  have HZ0 := Lib.hid (Cel.new w 97 #[.bool f, .int .i64 K, .int .i64 to] rfl)
  have HS : Hid (∀ W', Calls Try.prog 51 #[.agg #[.bool f, .int .i64 K, .int .i64 to]] W' fun e w' => e = .returned (.int .i64 (ln s : Int)) ∧ Below W'.heap.size W' w') := Lib.hid fun W' => (size_any f K to (by omega) (by omega) W').mono fun e w' ⟨a, b⟩ => ⟨a.trans (ri (by omega)), b⟩
  have HC : Hid (∀ W', Below w.heap.size w W' → Calls Try.prog 48 #[.slice (some ⟨b, o, none⟩) 512 c] W' fun e w' => ∃ v, e = .returned v ∧ Made W'.heap.size W' v (pg S) w') := Lib.hid fun W' hW' => clone_any b o 512 c (pg S) W' (h.below hW').1 (by decide)
  have e1 : (F : Int) + (ln s : Int) - (m : Int) = (M : Int) := by omega
  have e2 : (to : Int) - (m : Int) = (E : Int) := by omega
  have m1 : F ≤ 512 := by omega
  have m2 : ln s ≤ 512 := by omega
  have m3 : m ≤ 512 := by omega
  have m4 : M ≤ 512 := by omega
  have m5 : F ≤ K := by omega
  have m6 : K ≤ 512 := by omega
  have m7 : E ≤ 512 := by omega
  have m8 : to ≤ 512 := by omega
  have m9 : M ≤ F + ln s := by omega
  have HLN := Lib.hid h.2.len
  have H1 := Lib.hid hT
  have H2 := Lib.hid htot
  have H3 := Lib.hid hto
  have H4 := Lib.hid hdm
  have H5 := Lib.hid hF
  have H6 := Lib.hid hK
  have H7 := Lib.hid hM
  have H8 := Lib.hid hE
  have H9 := Lib.hid h
  have HD := Lib.hid hd
  clear hT htot hto hdm hF hK hM hE h hd
  go_enter Try.func53, Try.ntmps53
  go_wp2_with first | (go_at_call 65; (with_reducible refine HG.out.mono ?_); rintro e w1 ⟨rfl, hb1⟩; have HB1 := Lib.hid (on HB0.out hb1); have HZ1 := Lib.hid (HZ0.out.below hb1); obtain ⟨⟨z0, z1, z2⟩, _⟩ := HZ1.out.three; clear hb1) | (go_at_call 51; (with_reducible refine (HS.out _).mono ?_); rintro e w2 ⟨rfl, hb2⟩; have HB2 := Lib.hid (on HB1.out hb2); have HZ2 := Lib.hid (HZ1.out.below hb2); clear hb2) | (go_at_call 48; (with_reducible refine (HC.out _ HB2.out).mono ?_); rintro e w3 ⟨v, rfl, hm3⟩; have HM3 := Lib.hid hm3; obtain ⟨g, cap, ex, rfl, q1, q2, q3, q4, q5⟩ := made_blk hm3 HLN.out (by decide); obtain ⟨p1, hp1, sl1⟩ := slice_from g 0 512 cap M M rfl m4 q3; obtain ⟨p2, hp2, sl2⟩ := slice_two g 0 512 cap F K F K rfl rfl m5 (Nat.le_trans m6 q3); have HP1 := Lib.hid hp1; have HP2 := Lib.hid hp2; clear hp1 hp2; have HQ3 := Lib.hid q1; have HZ3 := Lib.hid (HZ2.out.below hm3.2.1); obtain ⟨⟨y0, y1, y2⟩, _⟩ := HZ3.out.three; clear hm3 q1)
  have hg3 := q2
  have HX : Hid (((pg S).drop F).take (tot S2) = tl S2) := Lib.hid (by
    have hp := (pg_data S.length (S1 := S1) (S2 := S2) (s := s) (by rw [List.length_append, List.length_cons, tot_app]; show _ + (tot S1 + (ln s + tot S2)) ≤ 512; omega)).1
    have e3 : tot (S1 ++ s :: S2) = tot S := by rw [tot_app, H2.out]; show tot S1 + (ln s + tot S2) = _; omega
    rw [e3, H5.out] at hp
    rw [H1.out]; exact hp)
  have HKF : Hid (K - F = tot S2) := Lib.hid (by have := H2.out; have := H3.out; have := H5.out; have := H6.out; omega)
  have HME : Hid (M + tot S2 = E ∧ E + m = to) := Lib.hid (by have := H2.out; have := H3.out; have := H5.out; have := H7.out; have := H8.out; have := H4.out; omega)
  have hn4 : (bys (tl S2)).length = Nat.min (K - F) (512 - M) := by
    rw [bys_len, len_tl, HKF.out]
    exact (Nat.min_eq_left (by have := HME.out; omega)).symm
  have hfit4 : M + (bys (tl S2)).length ≤ (bys (pg S) ++ ex).length := by rw [List.length_append, bys_len, bys_len, len_tl, HLN.out]; have := HME.out; omega
  have hpos4 : 0 < (bys (tl S2)).length → some (⟨g, p1, none⟩ : Addr) = some ⟨g, M, none⟩ ∧ ∃ ad, some (⟨g, p2, none⟩ : Addr) = some ad ∧ ∀ j v, (bys (tl S2))[j]? = some v → w3.cell? (ad.add j) = some v := fun h0 => by
    rw [bys_len, len_tl] at h0
    have k1 := HP1.out (by have := HME.out; omega)
    have k2 := HP2.out (by have := HKF.out; omega)
    rw [Nat.zero_add] at k1 k2
    exact ⟨by rw [k1], _, rfl, fun j v hv => by rw [k2]; exact blk_src HQ3.out HX.out j v hv⟩
  have HN4 := Lib.hid hn4
  have HF4 := Lib.hid hfit4
  have HO4 := Lib.hid hpos4
  clear hn4 hfit4 hpos4
  go_region_law (refine step_copy_splice rfl (.tmp 29) (.tmp 34) 32 32 rfl 5 Try.underlying32 infoU8 (some ⟨g, p1, none⟩) (some ⟨g, p2, none⟩) (512 - M) (cap - M) (K - F) (cap - F) rfl rfl g M (bys (pg S) ++ ex) 5 HQ3.out (bys (tl S2)) HN4.out HO4.out HF4.out (bys_one _) w2.heap.size w2 HM3.out.2.1.drew q2 ?_; intro w4 hg4 hb4)
  have HQ4 : Hid (Blk w4 g (splice (pg S) M (tl S2)) ex) := Lib.hid (Blk.spliced (by rw [len_tl, HLN.out]; have := HME.out; omega) hg4.out)
  have HB4 := Lib.hid hb4
  have HZ4 := Lib.hid (HZ2.out.below hb4)
  obtain ⟨⟨x0, x1, x2⟩, _⟩ := HZ4.out.three
  have HL4 : Hid ((splice (pg S) M (tl S2)).length = 512) := Lib.hid (by rw [splice_len (by rw [len_tl, HLN.out]; have := HME.out; omega)]; exact HLN.out)
  clear hg4 hb4 y0 y1 y2 z0 z1 z2
  obtain ⟨X, hX⟩ : ∃ X, max F M = X := ⟨_, rfl⟩
  have hFX : F ≤ X := by omega
  have hX5 : X ≤ 512 := by omega
  obtain ⟨p3, hp3, sl3⟩ := slice_two g 0 512 cap F X F X rfl rfl hFX (Nat.le_trans hX5 q3)
  obtain ⟨p4, hp4, sl4⟩ := slice_from g 0 512 cap E E rfl m7 q3
  have HXX := Lib.hid hX
  have hfit5 : F + (X - F) ≤ (splice (pg S) M (tl S2)).length := by rw [HL4.out]; omega
  have hoff5 : 0 < X - F → p3 = F := fun h0 => by have := hp3 (by omega); omega
  have HF5 := Lib.hid hfit5
  have HO5 := Lib.hid hoff5
  have HL5 : Hid ((splice (splice (pg S) M (tl S2)) F (zs (X - F))).length = 512) := Lib.hid (by rw [splice_len (by rw [len_zs]; exact hfit5)]; exact HL4.out)
  have hn6 : (bys d).length = Nat.min m (512 - E) := by
    rw [bys_len, H4.out]
    exact (Nat.min_eq_left (by have := HME.out; omega)).symm
  have hfit6 : E + (bys d).length ≤ (bys (splice (splice (pg S) M (tl S2)) F (zs (X - F))) ++ ex).length := by rw [List.length_append, bys_len, bys_len, HL5.out, H4.out]; have := HME.out; omega
  have HN6 := Lib.hid hn6
  have HF6 := Lib.hid hfit6
  have HP4 := Lib.hid hp4
  have HPO : Hid (∀ W, Below w2.heap.size w2 W → 0 < (bys d).length → some (⟨g, p4, none⟩ : Addr) = some ⟨g, E, none⟩ ∧ ∃ ad, A2 = some ad ∧ ∀ j v, (bys d)[j]? = some v → W.cell? (ad.add j) = some v) := Lib.hid fun W hW h0 => by
    rw [bys_len] at h0
    have k1 := HP4.out (by have := HME.out; have := H4.out; omega)
    rw [Nat.zero_add] at k1
    exact ⟨by rw [k1], src_at ((HD.out.below HB2.out).1.below hW (Nat.le_refl _)) h0⟩
  have HU1 := Lib.hid (show 2 * ((S1.length : Int) + 1) = ((2 * (S1.length + 1) : Nat) : Int) by omega)
  have HU2 := Lib.hid (show (m : Int) + 1 = ((m + 1 : Nat) : Int) by omega)
  have HU3 := Lib.hid (show (S1.length : Int) + 1 = ((S1.length + 1 : Nat) : Int) by omega)
  obtain ⟨N, hN⟩ : ∃ N, max S.length (S1.length + 1) = N := ⟨_, rfl⟩
  have HNN := Lib.hid hN
  have hk1 : S1.length ≤ 1000 := by omega
  have hN5 : N < 65536 := by omega
  have HCN : Hid (∀ W', Below w2.heap.size w2 W' → Calls Try.prog 63 #[.slice (some ⟨b, o, none⟩) 512 c] W' fun e w' => e = .returned (.int .i64 (S.length : Int)) ∧ ∃ q, w' = W'.drewN q) := Lib.hid fun W' hW' => count_any (some ⟨b, o, none⟩) c S W' ((H9.out.below HB2.out).below hW')
  clear hX hp3 hp4 hfit5 hoff5 hn6 hfit6 hN hg3 HP1 HP2 HN4 HF4 HO4 HX
  go_wp2_with first | (with_reducible refine wpList_max rfl (.tmp 38) (.tmp 39) rfl F M X _ _ rfl rfl rfl rfl HXX.out ?_) | (with_reducible refine wpList_clear_row rfl (.tmp 41) rfl g F p3 (X - F) (cap - F) rfl HO5.out _ _ HQ4.out HF5.out w2.heap.size w2 HB4.out q2 ?_; intro w5 hq5 hb5; have HQ5 := Lib.hid hq5.heap; have HB5 := Lib.hid hb5; have HZ5 := Lib.hid (HZ2.out.below hb5); obtain ⟨⟨v0, v1, v2⟩, _⟩ := HZ5.out.three; clear hq5 hb5) | (with_reducible refine wpList_copy_splice rfl (.tmp 48) (.tmp 49) 32 32 rfl 5 Try.underlying32 infoU8 (some ⟨g, p4, none⟩) A2 (512 - E) (cap - E) m c2 rfl rfl g E (bys (splice (splice (pg S) M (tl S2)) F (zs (X - F))) ++ ex) 5 HQ5.out (bys d) HN6.out (HPO.out _ HB5.out) HF6.out (bys_one _) w2.heap.size w2 HB5.out q2 ?_; intro w6 hg6 hb6; have HG6 := hg6; have HB6 := Lib.hid hb6; clear hg6 hb6)
  have HL6 : Hid ((splice (splice (splice (pg S) M (tl S2)) F (zs (X - F))) E d).length = 512) := Lib.hid (by rw [splice_len (by rw [HL5.out, H4.out]; have := HME.out; omega)]; exact HL5.out)
  have HQ6 : Hid (Blk w6 g (splice (splice (splice (pg S) M (tl S2)) F (zs (X - F))) E d) ex) := Lib.hid (Blk.spliced (by rw [HL5.out, H4.out]; have := HME.out; omega) HG6.out)
  clear HG6
  have hk7 : 2 * (S1.length + 1) + 1 < 512 := by omega
  have hn7 : 512 ≤ (splice (splice (splice (pg S) M (tl S2)) F (zs (X - F))) E d).length := by rw [HL6.out]; exact Nat.le_refl _
  have hv7 : m + 1 < 65536 := by omega
  have HP7 := Lib.hid (putNumber_any g 512 cap (2 * (S1.length + 1)) (m + 1) _ _ HU1.out HU2.out _ ex hk7 hn7 (by decide) hv7 w6 HQ6.out)
  have HP8 : Hid (∀ W, Blk W g (put2 (splice (splice (splice (pg S) M (tl S2)) F (zs (X - F))) E d) (2 * (S1.length + 1)) (m + 1)) ex → Calls Try.prog 69 #[.slice (some ⟨g, 0, none⟩) 512 cap, .int .i64 0, .int .i64 N] W fun e w' => e = .returned (.tuple #[]) ∧ Blk w' g (put2 (put2 (splice (splice (splice (pg S) M (tl S2)) F (zs (X - F))) E d) (2 * (S1.length + 1)) (m + 1)) 0 N) ex ∧ W.grownBy w' (some g)) :=
    Lib.hid fun W hW => putNumber_any g 512 cap 0 N 0 N rfl rfl _ ex (by decide) (by rw [put2_len]; exact hn7) (by decide) hN5 W hW
  clear hn7 hk7
  go_wp2_with first | (go_at_call 70; (with_reducible refine (markAt_any _ hk1 _).mono ?_); rintro e w7 ⟨rfl, hw7⟩; subst hw7) | (go_at_call 69; (with_reducible refine HP7.out.mono ?_); rintro e w7 ⟨rfl, hq7, hg7⟩; have HQ7 := Lib.hid hq7; have HB7 := Lib.hid (below_grown HB6.out hg7 q2); clear hq7 hg7) | (go_at_call 63; (with_reducible refine (HCN.out _ HB7.out).mono ?_); rintro e w8 ⟨rfl, q, rfl⟩; have HQ8 := Lib.hid (HQ7.out.drewN q); have HB8 := Lib.hid (below_drewN HB7.out q)) | (with_reducible refine wpList_max rfl (.tmp 60) (.tmp 62) rfl S.length (S1.length + 1) N _ _ rfl rfl rfl HU3.out HNN.out ?_) | (go_at_call 69; (with_reducible refine (HP8.out _ HQ8.out).mono ?_); rintro e w9 ⟨rfl, hq9, hg9⟩; have HQ9 := Lib.hid hq9; have HB9 := Lib.hid (below_grown HB8.out hg9 q2); clear hq9 hg9)
  go_ret
  refine ⟨_, rfl, ?_⟩
  have e9 : put2 (put2 (splice (splice (splice (pg S) M (tl S2)) F (zs (X - F))) E d) (2 * (S1.length + 1)) (m + 1)) 0 N = pgn (max S.length (S1.length + 1)) (S1 ++ some d :: S2) := by
    have hl := lay_page S.length N S1 S2 s d F M to hr1 hr2 (by have := H5.out; have := H2.out; omega) H3.out (by have := H4.out; have := H7.out; have := HME.out; have := H2.out; have := H3.out; have := H5.out; omega)
    rw [HXX.out, H4.out, H8.out, ← H1.out] at hl
    rw [HNN.out]
    exact hl
  have hq := HQ9.out
  rw [e9] at hq
  exact blk_made hq (HB2.out.trans (HB9.out.mono HB2.out.size)) (Nat.le_trans HB2.out.size q2) (len_pgn (by rw [List.length_append, List.length_cons, tot_app]; show _ + (tot S1 + (d.length + tot S2)) ≤ 512; omega)) q3 q4 q5
end Go.Proofs.Ythcilmlaoddckaa.Pg
