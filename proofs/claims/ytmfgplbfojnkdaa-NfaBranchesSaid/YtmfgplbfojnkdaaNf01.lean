/- texts put together: RxFn1, Shelf, RxCls, RxFn2, RxGat, ArrEq, RxEq, RxRight, RxOkF, NfMath. -/
import Derived.Test.YtmfgplbfojnkdaaNf00
import Derived.BigQuiet
import Derived.Shelf.Slices.Turned
import Derived.Shelf.Small.Strs
import Derived.Shelf.Strings.Search1
import Derived.Test.YtmfgplbfojnkdaaProg
namespace Go.Proofs.Ytmfgplbfojnkdaa
open Go Go.RowKit Go.ChangeShapes cl rx
set_option maxHeartbeats 3200000 in
set_option maxRecDepth 100000 in
theorem rx_fail (q : Nat) (S : ByteArray) (t : St) (z co : Int) (w : World) (h : Rd q S t w) : Calls Try.prog 55 #[.pointer (some ⟨q, 0, none⟩), .int .i64 z, .int .i64 co] w (fun e w' => e = .returned (.tuple #[]) ∧ RK q S (t.fail z co) w w') := by
 have HR := Lib.hid h
 have c4 := boxc h 4 _ rfl
 have c3 := boxc h 3 _ rfl
 have f3 := boxf h 3
 have f4 := boxf h 4
 by_cases g : t.co = 0
 ·
  have HF : Hid (t.fail z co = { t with wr := z, co := co }) := by show _ = _; unfold St.fail; rw [if_pos g]
  have x1 : (w.setCell ⟨q, 3, none⟩ (.int .i64 z)).heap[q]? = some (.cells #[.string S, .int .i64 (t.p : Int), .int .i64 t.dp, .int .i64 z, .int .i64 t.co] 90) := heap_setCell_same w q 3 _ _ _ h
  have d4 := boxc x1 4 _ rfl
  have g4 := boxf x1 4
  have HP : Hid (RK q S { t with wr := z, co := co } w ((w.setCell ⟨q, 3, none⟩ (.int .i64 z)).setCell ⟨q, 4, none⟩ (.int .i64 co))) :=
   ⟨heap_setCell_same _ q 4 _ _ _ x1, KX.cell.trans KX.cell⟩
  rw [HF.out]
  rw [g] at c4 d4
  clear h x1 g
  go_enter Try.func55, Try.ntmps55
  go_wp2
  go_end0
  exact ⟨rfl, HP.out⟩
 ·
  have HF : Hid (t.fail z co = t) := by show _ = _; unfold St.fail; rw [if_neg g]
  rw [HF.out]
  clear h
  go_enter Try.func55, Try.ntmps55
  go_wp2
  go_end0
  exact ⟨rfl, HR.out, KX.refl⟩
set_option maxHeartbeats 3200000 in
set_option maxRecDepth 100000 in
theorem rx_next (q : Nat) (S : ByteArray) (t : St) (w : World) (h : Rd q S t w) (_hS : S.size ≤ 60) : Calls Try.prog 63 #[.pointer (some ⟨q, 0, none⟩)] w (fun e w' => e = .returned (.tuple #[.int .u8 (((nxt (kit.bytes S) t).getD 0 : Nat) : Int), .bool (nxt (kit.bytes S) t).isSome]) ∧ Below w.heap.size w w') := by
 have HR := Lib.hid h
 have c4 := boxc h 4 _ rfl
 have c1 := boxc h 1 _ rfl
 have c0 := boxc h 0 _ rfl
 by_cases g : t.co = 0
 ·
  by_cases g2 : t.p < S.size
  ·
   have HN : nxt (kit.bytes S) t = some (S[t.p]'g2).toNat := by unfold nxt; rw [if_pos g, byte_at g2]
   rw [HN]
   obtain ⟨p, hp⟩ : ∃ p, p = t.p := ⟨_, rfl⟩
   have g3 : p < S.size := by rw [hp]; exact g2
   have HB : (S[t.p]'g2).toNat = (S[p]'g3).toNat := by simp only [hp]
   rw [HB]
   rw [← hp] at c1
   rw [g] at c4
   have gi : (p : Int) < (S.size : Int) := by omega
   have X1 : Hid (w.heap[q]? = some (.cells #[.string S, .int .i64 (p : Int), .int .i64 t.dp, .int .i64 t.wr, .int .i64 t.co] 90)) := by show _ = _; rw [hp]; exact h
   clear h HN HB hp g2 g
   simp only [Option.getD_some, Option.isSome_some]
   go_enter Try.func63, Try.ntmps63
   go_wp2
   go_quiet (fail)
   have bd := below_drewN (Below.refl w.heap.size w) nq
   obtain ⟨W4, hW4⟩ : ∃ W, W = w.drewN nq := ⟨_, rfl⟩
   rw [← hW4] at bd ⊢
   have x4 := (bd.block q (lt_of_block X1.out)).trans X1.out
   have BD := Lib.hid bd
   clear c0 c1 c4 hW4 bd
   have c0 := boxc x4 0 _ rfl
   have c1 := boxc x4 1 _ rfl
   clear x4
   go_wp2
   go_quiet (fail)
   have bd2 := below_drewN (Below.refl W4.heap.size W4) nq
   obtain ⟨W5, hW5⟩ : ∃ W, W = W4.drewN nq := ⟨_, rfl⟩
   rw [← hW5] at bd2 ⊢
   have BD2 := Lib.hid (BD.out.trans (bd2.mono BD.out.size))
   clear hW5 bd2 c0 c1
   go_wp2
   refine bodyPost_ret (v := .tuple #[.int .u8 ((S[p]'g3).toNat : Int), .bool true]) (by simp [results, Try.results63, go_sem]) rfl ⟨rfl, BD2.out⟩
  ·
   have HN : nxt (kit.bytes S) t = none := by unfold nxt; rw [if_pos g, byte_no (by omega)]
   rw [HN]
   have gi : (S.size : Int) ≤ (t.p : Int) := by omega
   have gn : S.size ≤ t.p := by omega
   rw [g] at c4
   clear h HN g
   simp only [Option.getD_none, Option.isSome_none]
   go_enter Try.func63, Try.ntmps63
   go_wp2
   go_quiet (fail)
   have bd := below_drewN (Below.refl w.heap.size w) nq
   obtain ⟨W4, hW4⟩ : ∃ W, W = w.drewN nq := ⟨_, rfl⟩
   rw [← hW4] at bd ⊢
   have BD := Lib.hid bd
   clear c0 c1 c4 hW4 bd
   go_wp2
   refine bodyPost_ret (v := .tuple #[.int .u8 0, .bool false]) (by simp [results, Try.results63, go_sem]) rfl ⟨rfl, BD.out⟩
 ·
  have HN : nxt (kit.bytes S) t = none := by unfold nxt; rw [if_neg g]
  rw [HN]
  clear h HN
  simp only [Option.getD_none, Option.isSome_none]
  go_enter Try.func63, Try.ntmps63
  go_wp2
  go_quiet (fail)
  have bd := below_drewN (Below.refl w.heap.size w) nq
  obtain ⟨W4, hW4⟩ : ∃ W, W = w.drewN nq := ⟨_, rfl⟩
  rw [← hW4] at bd ⊢
  have BD := Lib.hid bd
  clear c0 c1 c4 hW4 bd
  go_wp2
  refine bodyPost_ret (v := .tuple #[.int .u8 0, .bool false]) (by simp [results, Try.results63, go_sem]) rfl ⟨rfl, BD.out⟩
theorem nxt_lt {S : ByteArray} {t : St} {c : Nat} (h : nxt (kit.bytes S) t = some c) : t.co = 0 ∧ t.p < S.size ∧ c < 256 := by
 unfold nxt at h
 split at h
 ·
  rename_i h0
  have hl : (kit.bytes S).length = S.size := by simp [kit.bytes]
  have hp := (List.getElem?_eq_some_iff.1 h).1
  exact ⟨h0, by omega, kit.bytes_lt S c (List.mem_of_getElem? h)⟩
 ·
  cases h
set_option maxHeartbeats 3200000 in
set_option maxRecDepth 100000 in
theorem rx_meets (q : Nat) (S : ByteArray) (t : St) (c : Nat) (w : World) (h : Rd q S t w) (hS : S.size ≤ 60) : Calls Try.prog 61 #[.pointer (some ⟨q, 0, none⟩), .int .u8 c] w (fun e w' => e = .returned (.bool (meets (kit.bytes S) c t).1) ∧ RK q S (meets (kit.bytes S) c t).2 w w') := by
 have HN := Lib.hid (rx_next q S t w h hS)
 have HR := Lib.hid h
 obtain ⟨o, ho⟩ : ∃ o, o = nxt (kit.bytes S) t := ⟨_, rfl⟩
 rw [← ho] at HN
 have HO := Lib.hid ho
 cases o with
 | none =>
  have HM : meets (kit.bytes S) c t = (false, t) := by unfold meets; rw [← ho]; simp
  rw [HM]
  clear h ho HM
  simp only [Option.getD_none, Option.isSome_none] at HN
  go_enter Try.func61, Try.ntmps61
  go_wp2_with fail
  (with_reducible refine HN.out.mono ?_)
  rintro e w3 ⟨rfl, b3⟩
  have R3 := Lib.hid (HR.out.next b3)
  have K3 := Lib.hid (KX.of (q := q) b3)
  clear b3
  go_wp2
  go_ret
  exact ⟨rfl, R3.out, K3.out⟩
 | some d =>
  obtain ⟨h0, hp, hd⟩ := nxt_lt ho.symm
  simp only [Option.getD_some, Option.isSome_some] at HN
  by_cases hdc : d = c
  ·
   have HM : meets (kit.bytes S) c t = (true, t.fwd) := by unfold meets; rw [← ho, if_pos (by rw [hdc])]
   rw [HM]
   subst hdc
   clear h ho HM
   go_enter Try.func61, Try.ntmps61
   go_wp2_with fail
   (with_reducible refine HN.out.mono ?_)
   rintro e w3 ⟨rfl, b3⟩
   have x3 := HR.out.next b3
   have K3 := KX.of (q := q) b3
   have c1 := boxc x3 1 _ rfl
   have f1 := boxf x3 1
   have HX : Hid (RK q S t.fwd w (w3.setCell ⟨q, 1, none⟩ (.int .i64 ((t.p : Int) + 1)))) := ⟨heap_setCell_same w3 q 1 _ _ _ x3, K3.trans KX.cell⟩
   clear x3 K3 b3
   go_wp2
   go_ret
   exact ⟨rfl, HX.out⟩
  ·
   have HM : meets (kit.bytes S) c t = (false, t) := by unfold meets; rw [← ho, if_neg (by simpa using hdc)]
   rw [HM]
   have hdi : ¬ (d : Int) = (c : Int) := by omega
   clear h ho HM
   go_enter Try.func61, Try.ntmps61
   go_wp2_with fail
   (with_reducible refine HN.out.mono ?_)
   rintro e w3 ⟨rfl, b3⟩
   have R3 := Lib.hid (HR.out.next b3)
   have K3 := Lib.hid (KX.of (q := q) b3)
   clear b3
   go_wp2
   go_ret
   exact ⟨rfl, R3.out, K3.out⟩
end Go.Proofs.Ytmfgplbfojnkdaa
namespace Go.Proofs
open Go.Shelf
def Try.lays137_ren : Go.Shelf.Ren := ⟨fun | 137 => 79 | 217 => 82 | 266 => 83 | n => n, fun | 9 => 9 | 5 => 5 | 3 => 3 | n => n, fun | n => n⟩
theorem Try.lays137 : Go.Proofs.Lays.n137 Try.prog Try.lays137_ren := {
 mixed := by kernel_rfl
 f137 := Try.func79.trans (congrArg some (by kernel_rfl))
 f217 := Try.func82.trans (congrArg some (by kernel_rfl))
 f266 := Try.func83.trans (congrArg some (by kernel_rfl))
 t3 := Try.underlying3
 a3 := Try.isAgg3
 z3 := Try.sizeOf3
 v3 := Try.zeroValue3
 t5 := Try.underlying5
 a5 := Try.isAgg5
 z5 := Try.sizeOf5
 v5 := Try.zeroValue5
 t9 := Try.underlying9
 a9 := Try.isAgg9
 z9 := Try.sizeOf9
 v9 := Try.zeroValue9 }
open Go.RowKit in
theorem Try.strings_IndexByte (s : ByteArray) (c : Int) (w : World) :
  Calls Try.prog 79 #[.string s, .int .u8 c] w fun e w' => e = .returned (.int .i64 (Lib.indexByte s.data.toList c.toNat.toUInt8)) ∧ w' = w := Any.strings_IndexByte Try.lays137 s c w
def Try.lays107_ren : Go.Shelf.Ren := ⟨fun | 107 => 28 | 108 => 46 | n => n, fun | 28 => 56 | 3 => 3 | 4 => 4 | 0 => 0 | n => n, fun | n => n⟩
theorem Try.lays107 : Go.Proofs.Lays.n107 Try.prog Try.lays107_ren := {
 mixed := by kernel_rfl
 f107 := Try.func28.trans (congrArg some (by kernel_rfl))
 f108 := Try.func46.trans (congrArg some (by kernel_rfl))
 t0 := Try.underlying0
 a0 := Try.isAgg0
 z0 := Try.sizeOf0
 v0 := Try.zeroValue0
 t3 := Try.underlying3
 a3 := Try.isAgg3
 z3 := Try.sizeOf3
 v3 := Try.zeroValue3
 t4 := Try.underlying4
 a4 := Try.isAgg4
 z4 := Try.sizeOf4
 v4 := Try.zeroValue4
 t28 := Try.underlying56
 a28 := Try.isAgg56
 z28 := Try.sizeOf56
 v28 := Try.zeroValue56 }
open Go.Lib in
theorem Try.slices_Contains_int (b off n c : Nat) (zs : List Int) (x : Int) (w : World) (hz : n ≤ zs.length) (hbig : n ≤ 9223372036854775807) (hc : ∀ j, j < zs.length → w.cell? ⟨b, off + j, none⟩ = some (.int .i64 (zs.getD j 0))) :
  Calls Try.prog 28 #[.slice (some ⟨b, off, none⟩) n c, .int .i64 x] w fun e w' => e = .returned (.bool ((zs.take n).contains x)) ∧ w' = w := Any.slices_Contains_int Try.lays107 b off n c zs x w hz hbig hc
open Go.Lib in
theorem Try.slices_Contains_int_empty (a : Option Addr) (c : Nat) (x : Int) (w : World) :
  Calls Try.prog 28 #[.slice a 0 c, .int .i64 x] w fun e w' => e = .returned (.bool false) ∧ w' = w := Any.slices_Contains_int_empty Try.lays107 a c x w
end Go.Proofs
namespace Go.Proofs.Ytmfgplbfojnkdaa
open Go Go.RowKit Go.ChangeShapes cl rx
theorem u64_and (a b : Nat) (ha : a < 18446744073709551616) (hb : b < 18446744073709551616) : bits .and .u64 (a : Int) (b : Int) = ((a &&& b : Nat) : Int) := by
 have hx : a &&& b < 2 ^ 64 := Nat.and_lt_two_pow _ (by omega)
 show IntKind.u64.wrap ((BitVec.ofInt 64 (a : Int) &&& BitVec.ofInt 64 (b : Int)).toNat : Int) = _
 rw [BitVec.toNat_and, ofInt_u64 a (by omega), ofInt_u64 b (by omega)]
 exact IntWalk.u64_in _ ⟨by omega, by omega⟩
theorem u64_or (a b : Nat) (ha : a < 18446744073709551616) (hb : b < 18446744073709551616) : bits .or .u64 (a : Int) (b : Int) = ((a ||| b : Nat) : Int) := by
 have hx : a ||| b < 2 ^ 64 := Nat.or_lt_two_pow (by omega) (by omega)
 show IntKind.u64.wrap ((BitVec.ofInt 64 (a : Int) ||| BitVec.ofInt 64 (b : Int)).toNat : Int) = _
 rw [BitVec.toNat_or, ofInt_u64 a (by omega), ofInt_u64 b (by omega)]
 exact IntWalk.u64_in _ ⟨by omega, by omega⟩
theorem pow_u64 {r : Nat} (h : r < 64) : IntKind.u64.wrap (2 ^ r) = ((2 ^ r : Nat) : Int) := by
 have h1 : (2 : Nat) ^ r < 2 ^ 64 := Nat.pow_lt_pow_right (by decide) h
 have e : ((2 : Int) ^ r) = ((2 ^ r : Nat) : Int) := by simp
 rw [e]
 obtain ⟨v, hv⟩ : ∃ v, v = 2 ^ r := ⟨_, rfl⟩
 rw [← hv] at h1 ⊢
 exact IntWalk.u64_in _ ⟨by omega, by omega⟩
theorem bit_u64 {n r : Nat} (hn : n < 18446744073709551616) : (bits .and .u64 ((n : Int) / 2 ^ r) 1 == 1) = n.testBit r := by
 have e : ((n : Int) / 2 ^ r) = ((n / 2 ^ r : Nat) : Int) := by simp
 have hlt : n / 2 ^ r ≤ n := Nat.div_le_self _ _
 have e1 : (1 : Int) = ((1 : Nat) : Int) := rfl
 rw [e, e1, u64_and _ _ (by omega) (by omega), Nat.testBit_eq_decide_div_mod_eq, Nat.and_one_is_mod]
 by_cases h : n / 2 ^ r % 2 = 1
 ·
  rw [h]; simp
 ·
  have : n / 2 ^ r % 2 = 0 := by omega
  rw [this]; simp
def rx.Cls.ok (k : Cls) : Prop := k.a < 18446744073709551616 ∧ k.b < 18446744073709551616 ∧ k.c < 18446744073709551616 ∧ k.d < 18446744073709551616
set_option maxHeartbeats 3200000 in
set_option maxRecDepth 100000 in
theorem rx_in (k : Cls) (c : Nat) (w : World) (hk : k.ok) (hc : c < 256) : Calls Try.prog 27 #[.agg #[.int .u64 k.a, .int .u64 k.b, .int .u64 k.c, .int .u64 k.d], .int .u8 c] w (fun e w' => e = .returned (.bool (k.has c)) ∧ Below w.heap.size w w') := by
 obtain ⟨ka, kb, kc, kd⟩ := hk
 rcases (by omega : c < 64 ∨ (64 ≤ c ∧ c < 128) ∨ (128 ≤ c ∧ c < 192) ∨ 192 ≤ c) with h | h | h | h
 ·
  have e1 : (c : Int) / 64 = 0 := by omega
  have e1n : c / 64 = 0 := by omega
  obtain ⟨r, hr⟩ : ∃ r, r = c % 64 := ⟨_, rfl⟩
  have e2 : (c : Int) % 64 = (r : Int) := by omega
  have e2n : c % 64 = r := hr.symm
  have hrl : r < 64 := by omega
  have HK : Hid (k.has c = (bits .and .u64 ((k.a : Int) / 2 ^ r) 1 == 1)) := by
   show _ = _
   rw [bit_u64 (by assumption)]
   unfold Cls.has Cls.wd
   rw [e2n]
   rw [if_pos (by omega)]
  clear hr
  go_enter Try.func27, Try.ntmps27
  go_wp2
  go_ret
  exact ⟨by rw [HK.out]; rfl, below1⟩
 ·
  have e1 : (c : Int) / 64 = 1 := by omega
  have e1n : c / 64 = 1 := by omega
  obtain ⟨r, hr⟩ : ∃ r, r = c % 64 := ⟨_, rfl⟩
  have e2 : (c : Int) % 64 = (r : Int) := by omega
  have e2n : c % 64 = r := hr.symm
  have hrl : r < 64 := by omega
  have HK : Hid (k.has c = (bits .and .u64 ((k.b : Int) / 2 ^ r) 1 == 1)) := by
   show _ = _
   rw [bit_u64 (by assumption)]
   unfold Cls.has Cls.wd
   rw [e2n]
   rw [if_neg (by omega), if_pos (by omega)]
  clear hr
  go_enter Try.func27, Try.ntmps27
  go_wp2
  go_ret
  exact ⟨by rw [HK.out]; rfl, below1⟩
 ·
  have e1 : (c : Int) / 64 = 2 := by omega
  have e1n : c / 64 = 2 := by omega
  obtain ⟨r, hr⟩ : ∃ r, r = c % 64 := ⟨_, rfl⟩
  have e2 : (c : Int) % 64 = (r : Int) := by omega
  have e2n : c % 64 = r := hr.symm
  have hrl : r < 64 := by omega
  have HK : Hid (k.has c = (bits .and .u64 ((k.c : Int) / 2 ^ r) 1 == 1)) := by
   show _ = _
   rw [bit_u64 (by assumption)]
   unfold Cls.has Cls.wd
   rw [e2n]
   rw [if_neg (by omega), if_neg (by omega), if_pos (by omega)]
  clear hr
  go_enter Try.func27, Try.ntmps27
  go_wp2
  go_ret
  exact ⟨by rw [HK.out]; rfl, below1⟩
 ·
  have e1 : (c : Int) / 64 = 3 := by omega
  have e1n : c / 64 = 3 := by omega
  obtain ⟨r, hr⟩ : ∃ r, r = c % 64 := ⟨_, rfl⟩
  have e2 : (c : Int) % 64 = (r : Int) := by omega
  have e2n : c % 64 = r := hr.symm
  have hrl : r < 64 := by omega
  have HK : Hid (k.has c = (bits .and .u64 ((k.d : Int) / 2 ^ r) 1 == 1)) := by
   show _ = _
   rw [bit_u64 (by assumption)]
   unfold Cls.has Cls.wd
   rw [e2n]
   rw [if_neg (by omega), if_neg (by omega), if_neg (by omega)]
  clear hr
  go_enter Try.func27, Try.ntmps27
  go_wp2
  go_ret
  exact ⟨by rw [HK.out]; rfl, below1⟩
set_option maxHeartbeats 3200000 in
set_option maxRecDepth 100000 in
theorem rx_single (c : Nat) (w : World) (hc : c < 256) : Calls Try.prog 73 #[.int .u8 c] w (fun e w' => e = .returned (.agg #[.int .u64 (Cls.one c).a, .int .u64 (Cls.one c).b, .int .u64 (Cls.one c).c, .int .u64 (Cls.one c).d]) ∧ Below w.heap.size w w') := by
 rcases (by omega : c < 64 ∨ (64 ≤ c ∧ c < 128) ∨ (128 ≤ c ∧ c < 192) ∨ 192 ≤ c) with h | h | h | h
 ·
  have e1 : (c : Int) / 64 = 0 := by omega
  have e1n : c / 64 = 0 := by omega
  obtain ⟨r, hr⟩ : ∃ r, r = c % 64 := ⟨_, rfl⟩
  have e2 : (c : Int) % 64 = (r : Int) := by omega
  have e2n : c % 64 = r := hr.symm
  have hrl : r < 64 := by omega
  have hw : IntKind.u64.wrap (2 ^ r) = ((2 ^ r : Nat) : Int) := pow_u64 hrl
  have HO : Cls.one c = ⟨2 ^ r, 0, 0, 0⟩ := by
   unfold Cls.one
   rw [if_pos (by omega), show c = r by omega]
  rw [HO]
  obtain ⟨v, hv⟩ : ∃ v, v = 2 ^ r := ⟨_, rfl⟩
  rw [← hv] at hw ⊢
  clear hr HO hv
  go_enter Try.func73, Try.ntmps73
  go_wp2
  refine bodyPost_ret (v := .agg #[.int .u64 (v : Int), .int .u64 0, .int .u64 0, .int .u64 0]) (by simp [results, Try.results73, go_sem]) rfl ⟨rfl, ?_⟩
  exact below1.trans (below1.mono (by simp))
 ·
  have e1 : (c : Int) / 64 = 1 := by omega
  have e1n : c / 64 = 1 := by omega
  obtain ⟨r, hr⟩ : ∃ r, r = c % 64 := ⟨_, rfl⟩
  have e2 : (c : Int) % 64 = (r : Int) := by omega
  have e2n : c % 64 = r := hr.symm
  have hrl : r < 64 := by omega
  have hw : IntKind.u64.wrap (2 ^ r) = ((2 ^ r : Nat) : Int) := pow_u64 hrl
  have HO : Cls.one c = ⟨0, 2 ^ r, 0, 0⟩ := by
   unfold Cls.one
   rw [if_neg (by omega), if_pos (by omega), show c - 64 = r by omega]
  rw [HO]
  obtain ⟨v, hv⟩ : ∃ v, v = 2 ^ r := ⟨_, rfl⟩
  rw [← hv] at hw ⊢
  clear hr HO hv
  go_enter Try.func73, Try.ntmps73
  go_wp2
  refine bodyPost_ret (v := .agg #[.int .u64 0, .int .u64 (v : Int), .int .u64 0, .int .u64 0]) (by simp [results, Try.results73, go_sem]) rfl ⟨rfl, ?_⟩
  exact below1.trans (below1.mono (by simp))
 ·
  have e1 : (c : Int) / 64 = 2 := by omega
  have e1n : c / 64 = 2 := by omega
  obtain ⟨r, hr⟩ : ∃ r, r = c % 64 := ⟨_, rfl⟩
  have e2 : (c : Int) % 64 = (r : Int) := by omega
  have e2n : c % 64 = r := hr.symm
  have hrl : r < 64 := by omega
  have hw : IntKind.u64.wrap (2 ^ r) = ((2 ^ r : Nat) : Int) := pow_u64 hrl
  have HO : Cls.one c = ⟨0, 0, 2 ^ r, 0⟩ := by
   unfold Cls.one
   rw [if_neg (by omega), if_neg (by omega), if_pos (by omega), show c - 128 = r by omega]
  rw [HO]
  obtain ⟨v, hv⟩ : ∃ v, v = 2 ^ r := ⟨_, rfl⟩
  rw [← hv] at hw ⊢
  clear hr HO hv
  go_enter Try.func73, Try.ntmps73
  go_wp2
  refine bodyPost_ret (v := .agg #[.int .u64 0, .int .u64 0, .int .u64 (v : Int), .int .u64 0]) (by simp [results, Try.results73, go_sem]) rfl ⟨rfl, ?_⟩
  exact below1.trans (below1.mono (by simp))
 ·
  have e1 : (c : Int) / 64 = 3 := by omega
  have e1n : c / 64 = 3 := by omega
  obtain ⟨r, hr⟩ : ∃ r, r = c % 64 := ⟨_, rfl⟩
  have e2 : (c : Int) % 64 = (r : Int) := by omega
  have e2n : c % 64 = r := hr.symm
  have hrl : r < 64 := by omega
  have hw : IntKind.u64.wrap (2 ^ r) = ((2 ^ r : Nat) : Int) := pow_u64 hrl
  have HO : Cls.one c = ⟨0, 0, 0, 2 ^ r⟩ := by
   unfold Cls.one
   rw [if_neg (by omega), if_neg (by omega), if_neg (by omega), show c - 192 = r by omega]
  rw [HO]
  obtain ⟨v, hv⟩ : ∃ v, v = 2 ^ r := ⟨_, rfl⟩
  rw [← hv] at hw ⊢
  clear hr HO hv
  go_enter Try.func73, Try.ntmps73
  go_wp2
  refine bodyPost_ret (v := .agg #[.int .u64 0, .int .u64 0, .int .u64 0, .int .u64 (v : Int)]) (by simp [results, Try.results73, go_sem]) rfl ⟨rfl, ?_⟩
  exact below1.trans (below1.mono (by simp))
set_option maxHeartbeats 3200000 in
set_option maxRecDepth 100000 in
theorem rx_class (k : Cls) (w : World) : Calls Try.prog 68 #[.agg #[.int .u64 k.a, .int .u64 k.b, .int .u64 k.c, .int .u64 k.d]] w (fun e w' => e = .returned (.agg #[.int .i64 2, .int .u64 k.a, .int .u64 k.b, .int .u64 k.c, .int .u64 k.d, .slice none 0 0, .int .i64 0, .int .i64 0]) ∧ Below w.heap.size w w') := by
 go_enter Try.func68, Try.ntmps68
 go_wp2
 refine bodyPost_ret (v := .agg #[.int .i64 2, .int .u64 k.a, .int .u64 k.b, .int .u64 k.c, .int .u64 k.d, .slice none 0 0, .int .i64 0, .int .i64 0]) (by simp [results, Try.results68, go_sem]) rfl ⟨rfl, ?_⟩
 exact below1.trans (below1.mono (by simp))
end Go.Proofs.Ytmfgplbfojnkdaa
namespace Go.Proofs.Ytmfgplbfojnkdaa
open Go Go.RowKit Go.ChangeShapes cl rx
def spB (c : Nat) : Bool := decide (0 ≤ Lib.indexByte [92, 46, 43, 42, 63, 40, 41, 124, 91, 93, 123, 125, 94, 36, 45] (c : Int).toNat.toUInt8)
theorem rx_special (c : Nat) (w : World) : Calls Try.prog 72 #[.int .u8 c] w (fun e w' => e = .returned (.bool (spB c)) ∧ w' = w) := by
 have HI := Lib.hid (Try.strings_IndexByte ⟨#[92, 46, 43, 42, 63, 40, 41, 124, 91, 93, 123, 125, 94, 36, 45]⟩ (c : Int) w)
 obtain ⟨z, hz⟩ : ∃ z, z = Lib.indexByte [92, 46, 43, 42, 63, 40, 41, 124, 91, 93, 123, 125, 94, 36, 45] (c : Int).toNat.toUInt8 := ⟨_, rfl⟩
 have HZ : Hid (Calls Try.prog 79 #[.string ⟨#[92, 46, 43, 42, 63, 40, 41, 124, 91, 93, 123, 125, 94, 36, 45]⟩, .int .u8 c] w (fun e w' => e = .returned (.int .i64 z) ∧ w' = w)) := by rw [hz]; exact HI.out
 unfold spB
 rw [← hz]
 clear HI hz
 go_enter Try.func72, Try.ntmps72
 go_wp2_with fail
 (with_reducible refine HZ.out.mono ?_)
 rintro e3 w3 ⟨rfl, rfl⟩
 go_wp2
 go_ret
 exact ⟨rfl, rfl⟩
end Go.Proofs.Ytmfgplbfojnkdaa
namespace Go.Proofs.Ytmfgplbfojnkdaa
open Go Go.RowKit Go.ChangeShapes cl rx
def RxO (B : Nat) (d : Nat) (L : List Pat) (v : Value) (W : World) : Prop := ∃ cs : List (List Value), cs.length = L.length ∧ (∀ (j : Nat) (c : List Value) (x : Pat), cs[j]? = some c → L[j]? = some x → FreA B v.ownBlock W (fun W => c.length = 8 ∧ rxR d W W.heap.size c x)) ∧ W.ownsRow B 27 8 v L.length cs.flatten
theorem RxO.next {B d : Nat} {L : List Pat} {v : Value} {W W' : World} (h : RxO B d L v W) (hb : Below W.heap.size W W') : RxO B d L v W' := by
 obtain ⟨cs, h0, h1, h2⟩ := h
 exact ⟨cs, h0, fun j c x hc hx => (h1 j c x hc hx).next hb, own_stay h2 hb⟩
theorem RxO.kx {B d q : Nat} {L : List Pat} {v : Value} {W W' : World} (h : RxO B d L v W) (hk : KX q W W') (hq : q < B) : RxO B d L v W' := by
 obtain ⟨cs, h0, h1, h2⟩ := h
 exact ⟨cs, h0, fun j c x hc hx => FreA.step (h1 j c x hc hx) hk.2.1 (fun j hB hj _ => hk.2.2 j hj (by omega)) (Or.inl rfl), own_kx h2 hk hq⟩
theorem RxO.nil {B d : Nat} {W : World} : RxO B d [] (.slice none 0 0) W := ⟨[], rfl, fun j c x hc => by simp at hc, World.ownsRow_nil _ _ _ _⟩
theorem rx_one {d : Nat} {w : World} {B : Nat} {c : List Value} {x : Pat} (h : rxR d w B c x) : c.length = 8 ∧ ∀ u ∈ c, u.oneCell' = true := by
 obtain ⟨ko, kn, kc, rfl⟩ := rx_form h
 refine ⟨rfl, fun u hu => ?_⟩
 simp only [List.mem_cons, List.not_mem_nil, or_false] at hu
 rcases hu with rfl | rfl | rfl | rfl | rfl | rfl | rfl | rfl <;> rfl
end Go.Proofs.Ytmfgplbfojnkdaa
namespace Go.Proofs.Ytmfgplbfojnkdaa
open Go Go.RowKit Go.ChangeShapes
section
variable {P : Program}
theorem part_int (w : World) {e : TypeId} (he : P.underlying e = some (.int .u64)) {xs : Array Value} {off : Nat} {v : Value} (hx : xs[off]? = some v) : (part e xs off).run P w = .ok v w := by
 simp [part, isAgg, run_underlying he, hx, Sem.run_bind]
theorem arr4_eq (w : World) (d : Nat) (t e : TypeId) (i : TypeInfo) (a b c f a' b' c' f' : Int) (ht : P.underlying t = some (.array 4 e)) (he : P.underlying e = some (.int .u64)) (hi : P.info? e = some i) (h1 : P.cellsOf e = 1) :
  (Op.equalIn (d + 2) t (.agg #[.int .u64 a, .int .u64 b, .int .u64 c, .int .u64 f]) (.agg #[.int .u64 a', .int .u64 b', .int .u64 c', .int .u64 f'])).run P w = .ok (a == a' && (b == b' && (c == c' && f == f'))) w := by
 have hs : ∀ w : World, (sizeOf e).run P w = .ok 1 w := fun w => by rw [run_sizeOf w hi, h1]
 have p0 : ∀ w : World, (part e #[.int .u64 a, .int .u64 b, .int .u64 c, .int .u64 f] 0).run P w = .ok (.int .u64 a) w := fun w => part_int w he rfl
 have p1 : ∀ w : World, (part e #[.int .u64 a, .int .u64 b, .int .u64 c, .int .u64 f] 1).run P w = .ok (.int .u64 b) w := fun w => part_int w he rfl
 have p2 : ∀ w : World, (part e #[.int .u64 a, .int .u64 b, .int .u64 c, .int .u64 f] 2).run P w = .ok (.int .u64 c) w := fun w => part_int w he rfl
 have p3 : ∀ w : World, (part e #[.int .u64 a, .int .u64 b, .int .u64 c, .int .u64 f] 3).run P w = .ok (.int .u64 f) w := fun w => part_int w he rfl
 have q0 : ∀ w : World, (part e #[.int .u64 a', .int .u64 b', .int .u64 c', .int .u64 f'] 0).run P w = .ok (.int .u64 a') w := fun w => part_int w he rfl
 have q1 : ∀ w : World, (part e #[.int .u64 a', .int .u64 b', .int .u64 c', .int .u64 f'] 1).run P w = .ok (.int .u64 b') w := fun w => part_int w he rfl
 have q2 : ∀ w : World, (part e #[.int .u64 a', .int .u64 b', .int .u64 c', .int .u64 f'] 2).run P w = .ok (.int .u64 c') w := fun w => part_int w he rfl
 have q3 : ∀ w : World, (part e #[.int .u64 a', .int .u64 b', .int .u64 c', .int .u64 f'] 3).run P w = .ok (.int .u64 f') w := fun w => part_int w he rfl
 rw [Op.equalIn]
 simp only [Sem.run_bind, run_underlying ht, Result.andThen_ok, hs]
 have hr : (List.range' 0 4 1) = [0, 1, 2, 3] := rfl
 simp only [Std.Legacy.Range.forIn_eq_forIn_range', Std.Legacy.Range.size, Nat.sub_zero, Nat.add_sub_cancel, Nat.div_one, hr, List.forIn_cons, List.forIn_nil, Sem.run_bind, Nat.mul_one, p0, q0, Result.andThen_ok, run_equalIn_int w d e .u64 .u64 _ _ he]
 cases h0 : (a == a')
 ·
  simp
 simp only [Bool.not_true, Bool.false_eq_true, if_false, Sem.run_pure, Sem.run_bind, Result.andThen_ok, p1, q1, run_equalIn_int w d e .u64 .u64 _ _ he]
 cases h1 : (b == b')
 ·
  simp
 simp only [Bool.not_true, Bool.false_eq_true, if_false, Sem.run_pure, Sem.run_bind, Result.andThen_ok, p2, q2, run_equalIn_int w d e .u64 .u64 _ _ he]
 cases h2 : (c == c')
 ·
  simp
 simp only [Bool.not_true, Bool.false_eq_true, if_false, Sem.run_pure, Sem.run_bind, Result.andThen_ok, p3, q3, run_equalIn_int w d e .u64 .u64 _ _ he]
 cases h3 : (f == f') <;> simp
end
end Go.Proofs.Ytmfgplbfojnkdaa
namespace Go.Proofs.Ytmfgplbfojnkdaa
open Go Go.RowKit Go.ChangeShapes cl rx
def rx.Cls.isz (x : Cls) : Bool := decide (x = Cls.zero)
def rx.Cls.eqq (x y : Cls) : Bool := decide (x = y)
set_option maxRecDepth 100000 in
theorem u64_under : (Try.prog).underlying 22 = some (.int .u64) := by rfl
set_option maxRecDepth 100000 in
theorem cls_under : (Try.prog).underlying 24 = some (.array 4 22) := by rfl
set_option maxRecDepth 100000 in
theorem u64_cells : (Try.prog).cellsOf 22 = 1 := by rfl
set_option maxRecDepth 100000 in
theorem u64_info : ∃ i, (Try.prog).info? 22 = some i := ⟨_, rfl⟩
set_option maxRecDepth 100000 in
theorem eqq_is (x y : Cls) : ((x.a : Int) == (y.a : Int) && ((x.b : Int) == (y.b : Int) && ((x.c : Int) == (y.c : Int) && (x.d : Int) == (y.d : Int)))) = x.eqq y := by
 obtain ⟨a, b, c, d⟩ := x
 obtain ⟨e, f, g, h⟩ := y
 unfold Cls.eqq
 rw [Bool.eq_iff_iff]
 simp only [Bool.and_eq_true, beq_iff_eq, decide_eq_true_eq, Int.natCast_inj, Cls.mk.injEq]
set_option maxRecDepth 100000 in
@[go_sem] theorem cls_eq (x y : Cls) (w : World) : (Op.equalIn 10000 24 (.agg #[.int .u64 x.a, .int .u64 x.b, .int .u64 x.c, .int .u64 x.d]) (.agg #[.int .u64 y.a, .int .u64 y.b, .int .u64 y.c, .int .u64 y.d])).run Try.prog w = .ok (x.eqq y) w := by
 obtain ⟨i, hi⟩ := u64_info
 rw [← eqq_is]
 exact arr4_eq w 9998 _ _ i _ _ _ _ _ _ _ _ cls_under u64_under hi u64_cells
set_option maxRecDepth 100000 in
@[go_sem] theorem cls_eq0 (x : Cls) (w : World) : (Op.equalIn 10000 24 (.agg #[.int .u64 x.a, .int .u64 x.b, .int .u64 x.c, .int .u64 x.d]) (.agg #[.int .u64 0, .int .u64 0, .int .u64 0, .int .u64 0])).run Try.prog w = .ok x.isz w := cls_eq x Cls.zero w
set_option maxRecDepth 100000 in
@[go_sem] theorem cls_eq00 (w : World) : (Op.equalIn 10000 24 (.agg #[.int .u64 0, .int .u64 0, .int .u64 0, .int .u64 0]) (.agg #[.int .u64 0, .int .u64 0, .int .u64 0, .int .u64 0])).run Try.prog w = .ok true w := cls_eq Cls.zero Cls.zero w
set_option maxRecDepth 100000 in
theorem rx.Cls.isz_of {x : Cls} (h : x ≠ Cls.zero) : x.isz = false := decide_eq_false h
end Go.Proofs.Ytmfgplbfojnkdaa
namespace Go.Proofs.Ytmfgplbfojnkdaa
open Go Go.RowKit Go.ChangeShapes cl rx
def NotP (v : Value) (zs : List Int) (w : World) : Prop := (v = .slice none 0 0 ∧ zs = []) ∨ (∃ b, v = .slice (some ⟨b, 0, none⟩) zs.length zs.length ∧ b < w.heap.size ∧ zs.length ≤ 10 ∧ ∀ j, j < zs.length → w.cell? ⟨b, 0 + j, none⟩ = some (.int .i64 (zs.getD j 0)))
end Go.Proofs.Ytmfgplbfojnkdaa
namespace Go.Proofs.Ytmfgplbfojnkdaa
open Go Go.RowKit Go.ChangeShapes cl rx
def bndB (mn mx : Int) : Bool := decide (0 ≤ mn ∧ mn ≤ 20 ∧ -1 ≤ mx ∧ mx ≤ 20 ∧ (mx = -1 ∨ (mn ≤ mx ∧ ¬ (mn = 1 ∧ mx = 1))))
def kidsF (f : Pat → Bool) (zs : List Int) (l : List Pat) : Bool := l.all (fun x => !(zs.contains x.k) && f x)
def okF : Nat → Pat → Bool
 | 0, _ => false
 | d + 1, .mk k cl ks mn mx =>
  if 60 < ks.length then false else
  if (k ≠ 2 ∧ cl ≠ Cls.zero) ∨ (k ≠ 5 ∧ (mn ≠ 0 ∨ mx ≠ 0)) then false else
  if k = 1 then decide (ks.length = 0) else
  if k = 2 then decide (ks.length = 0) && !cl.isz else
  if k = 3 then decide (2 ≤ ks.length) && kidsF (fun x => okF d x) [3, 1] ks else
  if k = 4 then decide (2 ≤ ks.length) && kidsF (fun x => okF d x) [4] ks else
  if k = 5 then decide (ks.length = 1) && (bndB mn mx && kidsF (fun x => okF d x) [] ks) else false
theorem con_any {v : Value} {zs : List Int} {w : World} (h : NotP v zs w) (k : Int) (W : World) (hW : Below w.heap.size w W) : Calls Try.prog 28 #[v, .int .i64 k] W (fun e w' => e = .returned (.bool (zs.contains k)) ∧ w' = W) := by
 rcases h with ⟨rfl, rfl⟩ | ⟨b, rfl, hb, hl, hc⟩
 ·
  exact Try.slices_Contains_int_empty none 0 k W
 ·
  have h1 := Try.slices_Contains_int b 0 zs.length zs.length zs k W (Nat.le_refl _) (by omega) (fun j hj => (hW.cell (p := ⟨b, _, none⟩) hb).trans (hc j hj))
  rw [List.take_length] at h1
  exact h1
theorem kidsF_no {f : Pat → Bool} {zs : List Int} {l : List Pat} {k : Nat} {x : Pat} (hk : k < l.length) (hx : x = l.getD k default) (h : (!(zs.contains x.k) && f x) = false) : kidsF f zs l = false := by
 unfold kidsF
 rw [List.all_eq_false]
 refine ⟨x, ?_, by rw [h]; simp⟩
 rw [hx, List.getD_eq_getElem?_getD, List.getElem?_eq_getElem hk]; exact List.getElem_mem _
theorem kidsF_yes {f : Pat → Bool} {zs : List Int} {l : List Pat} (h : ∀ j, j < l.length → (!(zs.contains (l.getD j default).k) && f (l.getD j default)) = true) : kidsF f zs l = true := by
 unfold kidsF
 rw [List.all_eq_true]
 intro x hx
 obtain ⟨j, hj, rfl⟩ := List.mem_iff_getElem.1 hx
 have := h j hj
 rw [List.getD_eq_getElem?_getD, List.getElem?_eq_getElem hj] at this
 exact this
set_option maxHeartbeats 3200000 in
theorem rbounds_any (n m : Int) (w : World) : Calls Try.prog 53 #[.int .i64 n, .int .i64 m] w (fun e w' => e = .returned (.bool (bndB n m)) ∧ w' = w) := by
 obtain ⟨A, hA⟩ : ∃ A, A = bndB n m := ⟨_, rfl⟩
 rw [← hA]
 unfold bndB at hA
 by_cases h1 : n < 0
 ·
  have d1 : decide (n < 0) = true := decide_eq_true h1
  obtain rfl : A = false := by rw [hA]; exact decide_eq_false (by omega)
  clear hA
  go_enter Try.func53, Try.ntmps53
  go_wp2
  go_ret
  exact ⟨rfl, rfl⟩
 have d1 : decide (n < 0) = false := decide_eq_false h1
 by_cases h2 : 20 < n
 ·
  have d2 : decide (20 < n) = true := decide_eq_true h2
  obtain rfl : A = false := by rw [hA]; exact decide_eq_false (by omega)
  clear hA
  go_enter Try.func53, Try.ntmps53
  go_wp2
  go_ret
  exact ⟨rfl, rfl⟩
 have d2 : decide (20 < n) = false := decide_eq_false h2
 by_cases h3 : m < -1
 ·
  have d3 : decide (m < -1) = true := decide_eq_true h3
  obtain rfl : A = false := by rw [hA]; exact decide_eq_false (by omega)
  clear hA
  go_enter Try.func53, Try.ntmps53
  go_wp2
  go_ret
  exact ⟨rfl, rfl⟩
 have d3 : decide (m < -1) = false := decide_eq_false h3
 by_cases h4 : 20 < m
 ·
  have d4 : decide (20 < m) = true := decide_eq_true h4
  obtain rfl : A = false := by rw [hA]; exact decide_eq_false (by omega)
  clear hA
  go_enter Try.func53, Try.ntmps53
  go_wp2
  go_ret
  exact ⟨rfl, rfl⟩
 have d4 : decide (20 < m) = false := decide_eq_false h4
 by_cases h5 : m = -1
 ·
  have d5 : (m == -1) = true := beq_iff_eq.2 h5
  obtain rfl : A = true := by rw [hA]; exact decide_eq_true (by omega)
  clear hA
  go_enter Try.func53, Try.ntmps53
  go_wp2
  go_ret
  exact ⟨rfl, rfl⟩
 have d5 : (m == -1) = false := beq_eq_false_iff_ne.2 h5
 by_cases h6 : n ≤ m
 ·
  have d6 : decide (n ≤ m) = true := decide_eq_true h6
  by_cases h7 : n = 1
  ·
   have d7 : (n == 1) = true := beq_iff_eq.2 h7
   by_cases h8 : m = 1
   ·
    have d8 : (m == 1) = true := beq_iff_eq.2 h8
    obtain rfl : A = false := by rw [hA]; exact decide_eq_false (by omega)
    clear hA
    go_enter Try.func53, Try.ntmps53
    go_wp2
    go_ret
    exact ⟨rfl, rfl⟩
   ·
    have d8 : (m == 1) = false := beq_eq_false_iff_ne.2 h8
    obtain rfl : A = true := by rw [hA]; exact decide_eq_true (by omega)
    clear hA
    go_enter Try.func53, Try.ntmps53
    go_wp2
    go_ret
    exact ⟨rfl, rfl⟩
  ·
   have d7 : (n == 1) = false := beq_eq_false_iff_ne.2 h7
   obtain rfl : A = true := by rw [hA]; exact decide_eq_true (by omega)
   clear hA
   go_enter Try.func53, Try.ntmps53
   go_wp2
   go_ret
   exact ⟨rfl, rfl⟩
 ·
  have d6 : decide (n ≤ m) = false := decide_eq_false h6
  obtain rfl : A = false := by rw [hA]; exact decide_eq_false (by omega)
  clear hA
  go_enter Try.func53, Try.ntmps53
  go_wp2
  go_ret
  exact ⟨rfl, rfl⟩
set_option maxHeartbeats 6400000 in
set_option maxRecDepth 100000 in
theorem rkids_any (f : Pat → Bool) (e : Nat) (z : Int) (HR : ∀ (x : Pat) (c : List Value) (w : World), rxR e w w.heap.size c x → Calls Try.prog 34 #[.agg c.toArray, .int .i64 z] w (fun e w' => e = .returned (.bool (f x)) ∧ Below w.heap.size w w'))
  (l : List Pat) (v : Value) (nv : Value) (zs : List Int) (w : World) (h : RowsAt 8 (rxR e) w w.heap.size v l) (hn : NotP nv zs w) :
  Calls Try.prog 52 #[v, .int .i64 z, nv] w (fun e w' => e = .returned (.bool (kidsF f zs l)) ∧ Below w.heap.size w w') := by
 obtain ⟨m, hm⟩ : ∃ m, m = l.length := ⟨_, rfl⟩
 obtain ⟨ao, cap, rfl, hnc, hnm⟩ := h.form' hm
 unfold maxLen at hnm
 have HCN : Hid (∀ (k : Int), ∀ W, Below w.heap.size w W → Calls Try.prog 28 #[nv, .int .i64 k] W (fun e w' => e = .returned (.bool (zs.contains k)) ∧ w' = W)) := fun k W hW => con_any hn k W hW
 have hnf : ∃ no nn nc, nv = .slice no nn nc := by
  rcases hn with ⟨rfl, _⟩ | ⟨b, rfl, _⟩ <;> exact ⟨_, _, _, rfl⟩
 obtain ⟨no, nn, nc, rfl⟩ := hnf
 obtain ⟨A, hA⟩ : ∃ A, A = kidsF f zs l := ⟨_, rfl⟩
 rw [← hA]
 have HA := Lib.hid hA
 have HL := Lib.hid h
 have HM := Lib.hid hm
 have HH := Lib.hid HR
 clear h hm HR hn hA
 go_enter Try.func52, Try.ntmps52
 go_wp2
 go_loopw [11, 25] (fun i _ wr => ∃ k : Nat, i = .int .i64 k ∧ k ≤ m ∧ Below w.heap.size w wr ∧ ∀ j, j < k → (!(zs.contains (l.getD j default).k) && f (l.getD j default)) = true) (fun i _ _ => m - (intOf i).toNat)
 case atStart => exact ⟨0, rfl, Nat.zero_le _, Below.refl _ _, fun j hj => absurd hj (by omega)⟩
 case round =>
  obtain ⟨k, rfl, hk, hbl, hall⟩ := hrel
  have HBL := Lib.hid hbl
  have HALL := Lib.hid hall
  clear hall
  by_cases hlt : k < m
  ·
   have hkI : (k : Int) < (m : Int) := by omega
   obtain ⟨x, hx⟩ : ∃ x, x = l.getD k default := ⟨_, rfl⟩
   obtain ⟨ba, oa, c, rfl, hbB, hcl, hR, hC⟩ := (HL.out.next (rxR_steady e) hbl).get HM.out hlt default
   rw [← hx] at hR
   have HX := Lib.hid hx
   have HLT := Lib.hid hlt
   obtain ⟨ko, kn, kc, rfl⟩ := rx_form hR
   have z0 : wr.cell? ⟨ba, oa + k * 8, none⟩ = _ := hC 0 _ rfl
   have z1 := hC 1 _ rfl
   have z2 := hC 2 _ rfl
   have z3 := hC 3 _ rfl
   have z4 := hC 4 _ rfl
   have z5 := hC 5 _ rfl
   have z6 := hC 6 _ rfl
   have z7 := hC 7 _ rfl
   obtain ⟨W4, hW4⟩ : ∃ W, W = wr.alloc (.cells #[.int .i64 x.k, .int .u64 x.cl.a, .int .u64 x.cl.b, .int .u64 x.cl.c, .int .u64 x.cl.d, .slice ko kn kc, .int .i64 x.mn, .int .i64 x.mx] 27) := ⟨_, rfl⟩
   have b4 : Below wr.heap.size wr W4 := by rw [hW4]; exact below1
   have x4 : W4.heap[wr.heap.size]? = some (.cells #[.int .i64 x.k, .int .u64 x.cl.a, .int .u64 x.cl.b, .int .u64 x.cl.c, .int .u64 x.cl.d, .slice ko kn kc, .int .i64 x.mn, .int .i64 x.mx] 27) := by rw [hW4]; exact heap_alloc_new _ _
   have HCO := Lib.hid (HCN.out x.k W4 (hbl.trans (b4.mono hbl.size)))
   have HRI := Lib.hid (HH.out x _ W4 (rxR_steady e _ _ _ _ _ _ hR b4 b4.size))
   have B4 := Lib.hid (hbl.trans (b4.mono hbl.size))
   obtain ⟨q4, hq4⟩ : ∃ q4, q4 = wr.heap.size := ⟨_, rfl⟩
   rw [← hq4] at x4
   have y0 := boxc x4 0 _ rfl
   have y1 := boxc x4 1 _ rfl
   have y2 := boxc x4 2 _ rfl
   have y3 := boxc x4 3 _ rfl
   have y4 := boxc x4 4 _ rfl
   have y5 := boxc x4 5 _ rfl
   have y6 := boxc x4 6 _ rfl
   have y7 := boxc x4 7 _ rfl
   have v0 := y0
   rw [hW4, hq4] at v0
   have HW4 := Lib.hid hW4
   have HQ4 := Lib.hid hq4
   obtain ⟨P1, hP1⟩ : ∃ P1, P1 = zs.contains x.k := ⟨_, rfl⟩
   obtain ⟨P2, hP2⟩ : ∃ P2, P2 = f x := ⟨_, rfl⟩
   rw [← hP1] at HCO
   rw [← hP2] at HRI
   have HP1 := Lib.hid hP1
   have HP2 := Lib.hid hP2
   clear hR hC hx hcl hbB hbl b4 x4 hW4 hq4 hP1 hP2 hlt
   go_wp2_with fail
   rw [← HW4.out, ← HQ4.out]
   clear v0
   (with_reducible refine HCO.out.mono ?_)
   rintro e5 w5 ⟨rfl, rfl⟩
   cases P1 with
   | true =>
    go_wp2
    go_ret
    exact ⟨by rw [HA.out, kidsF_no (by have := HM.out; have := HLT.out; omega) HX.out (by rw [← HP1.out]; rfl)]; rfl, B4.out⟩
   | false =>
    go_wp2_with fail
    (with_reducible refine HRI.out.mono ?_)
    rintro e6 w6 ⟨rfl, b6⟩
    have B6 := Lib.hid (B4.out.trans (b6.mono B4.out.size))
    clear b6 y0 y1 y2 y3 y4 y5 y6 y7
    cases P2 with
    | false =>
     go_wp2
     go_ret
     exact ⟨by rw [HA.out, kidsF_no (by have := HM.out; have := HLT.out; omega) HX.out (by rw [← HP1.out, ← HP2.out]; rfl)]; rfl, B6.out⟩
    | true =>
     go_wp2
     go_roundw
     case rel =>
      refine ⟨k + 1, by go_num, by have := HLT.out; omega, B6.out, fun j hj => ?_⟩
      rcases (by omega : j < k ∨ j = k) with hj | rfl
      ·
       exact HALL.out j hj
      ·
       rw [← HX.out, ← HP1.out, ← HP2.out]; rfl
     case measure => simp [intOf]; have := HLT.out; omega
  ·
   obtain rfl : k = m := by omega
   clear hbl
   go_wp2
   go_ret
   exact ⟨by rw [HA.out, kidsF_yes (fun j hj => HALL.out j (by have := HM.out; omega))]; rfl, HBL.out⟩
end Go.Proofs.Ytmfgplbfojnkdaa
namespace Go.Proofs.Ytmfgplbfojnkdaa.nf
open rx
structure Ed where
 fr : Nat
 to : Nat
 fre : Bool
 cl : Cls
instance edInh : Inhabited Ed := ⟨⟨0, 0, false, .zero⟩⟩
structure Bd where
 sz : Nat
 es : List Ed
def Bd.full (b : Bd) : Bool := decide (400 < b.sz)
def Bd.free (b : Bd) (f t : Nat) : Bd := ⟨b.sz, b.es ++ [⟨f, t, true, .zero⟩]⟩
def thenF (O : Pat → Bd → Bd) : List Pat → Nat → Bd → Nat × Bd
 | [], e, b => (e, b)
 | k :: ks, e, b => if b.full then (e, b) else thenF O ks (b.sz + 1) ((O k b).free e b.sz)
def orF (O : Pat → Bd → Bd) (s f : Nat) : List Pat → Bd → Bd
 | [], b => b
 | k :: ks, b => if b.full then b else orF O s f ks (((O k b).free s b.sz).free (b.sz + 1) f)
def oneF (O : Bd → Bd) (mn mx : Int) (f n i e : Nat) (b : Bd) : Bd :=
 let b1 := (O b).free e b.sz
 let b2 := if mn ≤ (i : Int) then b1.free e f else b1
 if mx = -1 ∧ n = 0 then b2.free (b.sz + 1) b.sz else b2
def manyF (O : Bd → Bd) (mn mx : Int) (f : Nat) : Nat → Nat → Nat → Bd → Nat × Bd
 | 0, _, e, b => (e, b)
 | n + 1, i, e, b => if b.full then (e, b) else manyF O mn mx f n (i + 1) (b.sz + 1) (oneF O mn mx f n i e b)
def times (mn mx : Int) : Nat := (if mx = -1 then mn + 1 else mx).toNat
def of : Nat → Pat → Bd → Bd
 | 0, _, b => ⟨b.sz + 2, b.es⟩
 | d + 1, x, b =>
  let b0 : Bd := ⟨b.sz + 2, b.es⟩
  if x.k = 1 then b0.free b.sz (b.sz + 1)
  else if x.k = 2 then ⟨b.sz + 2, b.es ++ [⟨b.sz, b.sz + 1, false, x.cl⟩]⟩
  else if x.k = 3 then (thenF (of d) x.ks b.sz b0).2.free (thenF (of d) x.ks b.sz b0).1 (b.sz + 1)
  else if x.k = 4 then orF (of d) b.sz (b.sz + 1) x.ks b0
  else if x.k = 5 then (manyF (of d (x.ks.getD 0 default)) x.mn x.mx (b.sz + 1) (times x.mn x.mx) 0 b.sz b0).2.free (manyF (of d (x.ks.getD 0 default)) x.mn x.mx (b.sz + 1) (times x.mn x.mx) 0 b.sz b0).1 (b.sz + 1)
  else b0
structure Gr (b b' : Bd) (k : Nat) : Prop where
 sz : b.sz ≤ b'.sz
 es : b'.es.length + 2 * b.sz ≤ b.es.length + 2 * b'.sz + k
theorem Gr.free {b b' : Bd} {k f t : Nat} (h : Gr b b' k) : Gr b (b'.free f t) (k + 1) := ⟨h.sz, by have := h.es; simp [Bd.free]; omega⟩
structure Lay (b b' : Bd) : Prop where
 sz : b.sz + 2 ≤ b'.sz
 es : b'.es.length + 3 + 2 * b.sz ≤ b.es.length + 2 * b'.sz
 top : b'.sz ≤ 402
theorem full_no {b : Bd} (h : b.full = false) : b.sz ≤ 400 := by
 unfold Bd.full at h
 have := of_decide_eq_false h
 omega
structure Stp (b b' : Bd) : Prop where
 sz : b.sz ≤ b'.sz
 es : b'.es.length + 2 * b.sz ≤ b.es.length + 2 * b'.sz
 top : b'.sz ≤ 402
theorem Stp.trans {a b c : Bd} (h : Stp a b) (h2 : Stp b c) : Stp a c := ⟨Nat.le_trans h.sz h2.sz, by have := h.es; have := h2.es; omega, h2.top⟩
theorem Stp.refl {a : Bd} (h : a.sz ≤ 402) : Stp a a := ⟨Nat.le_refl _, by omega, h⟩
theorem Lay.stp1 {b b' : Bd} {e f : Nat} (h : Lay b b') : Stp b (b'.free e f) := ⟨by have := h.sz; show _ ≤ b'.sz; omega, by have := h.es; simp [Bd.free]; omega, h.top⟩
theorem Lay.stp2 {b b' : Bd} {e f e2 f2 : Nat} (h : Lay b b') : Stp b ((b'.free e f).free e2 f2) := ⟨by have := h.sz; show _ ≤ b'.sz; omega, by have := h.es; simp [Bd.free]; omega, h.top⟩
theorem Lay.one {b b' : Bd} {O : Bd → Bd} (hO : O b = b') (h : Lay b b') (mn mx : Int) (f n i e : Nat) : Stp b (oneF O mn mx f n i e b) := by
 have h1 := h.sz
 have h2 := h.es
 have h3 := h.top
 unfold oneF
 simp only [hO]
 split <;> split <;> exact ⟨by simp [Bd.free]; omega, by simp [Bd.free]; omega, by simp [Bd.free]; omega⟩
theorem then_stp {O : Pat → Bd → Bd} (hO : ∀ x b, b.sz ≤ 400 → Lay b (O x b)) : ∀ (ks : List Pat) (e : Nat) (b : Bd), b.sz ≤ 402 → Stp b (thenF O ks e b).2
 | [], _, _, h => Stp.refl h
 | k :: ks, e, b, h => by
  unfold thenF
  cases hf : b.full with
  | true => exact Stp.refl h
  | false =>
   have h1 : Stp b ((O k b).free e b.sz) := (hO k b (full_no hf)).stp1
   exact h1.trans (then_stp hO ks _ _ h1.top)
theorem or_stp {O : Pat → Bd → Bd} (hO : ∀ x b, b.sz ≤ 400 → Lay b (O x b)) (s f : Nat) : ∀ (ks : List Pat) (b : Bd), b.sz ≤ 402 → Stp b (orF O s f ks b)
 | [], _, h => Stp.refl h
 | k :: ks, b, h => by
  unfold orF
  cases hf : b.full with
  | true => exact Stp.refl h
  | false =>
   have h1 : Stp b (((O k b).free s b.sz).free (b.sz + 1) f) := (hO k b (full_no hf)).stp2
   exact h1.trans (or_stp hO s f ks _ h1.top)
theorem many_stp {O : Bd → Bd} (hO : ∀ b, b.sz ≤ 400 → Lay b (O b)) (mn mx : Int) (f : Nat) : ∀ (n i e : Nat) (b : Bd), b.sz ≤ 402 → Stp b (manyF O mn mx f n i e b).2
 | 0, _, _, _, h => Stp.refl h
 | n + 1, i, e, b, h => by
  unfold manyF
  cases hf : b.full with
  | true => exact Stp.refl h
  | false =>
   have h1 := (hO b (full_no hf)).one rfl mn mx f n i e
   exact h1.trans (many_stp hO mn mx f n _ _ _ h1.top)
theorem lay_free {b b' : Bd} {e f : Nat} (h : Stp ⟨b.sz + 2, b.es⟩ b') : Lay b (b'.free e f) := by
 have h1 := h.sz
 have h2 := h.es
 have h3 := h.top
 simp only at h1 h2
 exact ⟨h1, by simp [Bd.free]; omega, h3⟩
theorem lay_stp {b b' : Bd} (h : Stp ⟨b.sz + 2, b.es⟩ b') : Lay b b' := by
 have h1 := h.sz
 have h2 := h.es
 have h3 := h.top
 simp only at h1 h2
 exact ⟨h1, by omega, h3⟩
theorem of_lay : ∀ (d : Nat) (x : Pat) (b : Bd), b.sz ≤ 400 → Lay b (of d x b)
 | 0, x, b, h => lay_stp (Stp.refl (by show b.sz + 2 ≤ 402; omega))
 | d + 1, x, b, h => by
  have h0 : Stp ⟨b.sz + 2, b.es⟩ ⟨b.sz + 2, b.es⟩ := Stp.refl (by show b.sz + 2 ≤ 402; omega)
  unfold of
  simp only
  split
  ·
   exact lay_free h0
  ·
   split
   ·
    exact ⟨Nat.le_refl _, by simp; omega, by show b.sz + 2 ≤ 402; omega⟩
   ·
    split
    ·
     exact lay_free (then_stp (fun x c hc => of_lay d x c hc) _ _ _ (by show b.sz + 2 ≤ 402; omega))
    ·
     split
     ·
      exact lay_stp (or_stp (fun x c hc => of_lay d x c hc) _ _ _ _ (by show b.sz + 2 ≤ 402; omega))
     ·
      split
      ·
       exact lay_free (many_stp (fun c hc => of_lay d _ c hc) _ _ _ _ _ _ _ (by show b.sz + 2 ≤ 402; omega))
      ·
       exact lay_stp h0
end Go.Proofs.Ytmfgplbfojnkdaa.nf
