/- texts put together: RxBase, RxFn1, Shelf, RxCls, RxFn2, RxGat, RfLem. -/
import Derived.Test.YtbccejlemhgioaaPa00
import Derived.BigQuiet
import Derived.Shelf.Slices.Turned
import Derived.Shelf.Small.Strs
import Derived.Shelf.Strings.Search1
import Derived.Test.YtbccejlemhgioaaProg
import Derived.Test.YtbccejlemhgioaaRows
namespace Go.Proofs.Ytbccejlemhgioaa
open Go Go.RowKit Go.ChangeShapes cl rx
def rxR : Nat → Rel Pat
 | 0 => fun _ _ _ _ => False
 | d + 1 => fun w B c x => ∃ (ko : Option Addr) (kn kc : Nat), c = [.int .i64 x.k, .int .u64 x.cl.a, .int .u64 x.cl.b, .int .u64 x.cl.c, .int .u64 x.cl.d, .slice ko kn kc, .int .i64 x.mn, .int .i64 x.mx] ∧ RowsAt 8 (rxR d) w B (.slice ko kn kc) x.ks
theorem rxR_steady : ∀ d, Steady (rxR d)
 | 0 => fun _ _ _ _ _ _ h _ _ => h.elim
 | d + 1 => fun _ _ _ _ _ _ ⟨ko, kn, kc, e, hk⟩ hb hB => ⟨ko, kn, kc, e, hk.below (rxR_steady d) hb hB⟩
theorem rx_form : ∀ {d : Nat} {w : World} {B : Nat} {c : List Value} {x : Pat}, rxR d w B c x → ∃ (ko : Option Addr) (kn kc : Nat), c = [.int .i64 x.k, .int .u64 x.cl.a, .int .u64 x.cl.b, .int .u64 x.cl.c, .int .u64 x.cl.d, .slice ko kn kc, .int .i64 x.mn, .int .i64 x.mx]
 | 0, _, _, _, _, h => h.elim
 | _ + 1, _, _, _, _, ⟨ko, kn, kc, e, _⟩ => ⟨ko, kn, kc, e⟩
theorem rxrows_imp {α : Type} {k : Nat} {R R' : Rel α} {w : World} {B : Nat} {v : Value} {l : List α} (h : RowsAt k R w B v l) (hi : ∀ c x, R w B c x → R' w B c x) : RowsAt k R' w B v l := by
 obtain ⟨cs, h0, h1, h2⟩ := h
 exact ⟨cs, h0, fun j c x hc hx => ⟨(h1 j c x hc hx).1, hi _ _ (h1 j c x hc hx).2⟩, h2⟩
theorem rxR_up : ∀ (d : Nat) (w : World) (B : Nat) (c : List Value) (x : Pat), rxR d w B c x → rxR (d + 1) w B c x
 | 0, _, _, _, _, h => h.elim
 | d + 1, w, B, _, _, ⟨ko, kn, kc, e, hk⟩ => ⟨ko, kn, kc, e, rxrows_imp hk (fun c x h => rxR_up d w B c x h)⟩
theorem rxR_le {d e : Nat} (h : d ≤ e) {w : World} {B : Nat} {c : List Value} {x : Pat} (hc : rxR d w B c x) : rxR e w B c x := by
 induction h with
 | refl => exact hc
 | step _ ih => exact rxR_up _ _ _ _ _ ih
theorem rx_leaf {d : Nat} {w : World} {B : Nat} {k mn mx : Int} {cl : Cls} : rxR (d + 1) w B [.int .i64 k, .int .u64 cl.a, .int .u64 cl.b, .int .u64 cl.c, .int .u64 cl.d, .slice none 0 0, .int .i64 mn, .int .i64 mx] (.mk k cl [] mn mx) := ⟨none, 0, 0, rfl, RowsAt.nil _ _⟩
theorem infoRx : (Try.prog.info? 28).map (fun i => (i.zero, i.size, i.bytes)) = some (some (.agg #[.int .i64 0, .int .u64 0, .int .u64 0, .int .u64 0, .int .u64 0, .slice none 0 0, .int .i64 0, .int .i64 0]), 8, 80) := by kernel_rfl
theorem rsize : (Try.prog.info? 28).map (·.size) = some 8 := by kernel_rfl
theorem clsize : (Try.prog.info? 25).map (·.size) = some 4 := by kernel_rfl
def Rd (q : Nat) (S : ByteArray) (t : St) (W : World) : Prop := W.heap[q]? = some (.cells #[.string S, .int .i64 (t.p : Int), .int .i64 t.dp, .int .i64 t.wr, .int .i64 t.co] 44)
theorem Rd.next {q : Nat} {S : ByteArray} {t : St} {W W' : World} (h : Rd q S t W) (hb : Below W.heap.size W W') : Rd q S t W' := (hb.block q (lt_of_block h)).trans h
theorem Rd.keep {q p : Nat} {S : ByteArray} {t : St} {W W' : World} (h : Rd q S t W) (hk : KX p W W') (hp : q ≠ p) : Rd q S t W' := (hk.2.2 q (lt_of_block h) hp).trans h
def RK (q : Nat) (S : ByteArray) (t : St) (w w' : World) : Prop := Rd q S t w' ∧ KX q w w'
theorem byte_at {S : ByteArray} {p : Nat} (h : p < S.size) : (kit.bytes S)[p]? = some (S[p]'h).toNat := by
 have hl : (kit.bytes S).length = S.size := by simp [kit.bytes]
 rw [List.getElem?_eq_getElem (by omega)]
 simp [kit.bytes]
 rfl
theorem byte_no {S : ByteArray} {p : Nat} (h : S.size ≤ p) : (kit.bytes S)[p]? = none := by
 have hl : (kit.bytes S).length = S.size := by simp [kit.bytes]
 exact List.getElem?_eq_none (by omega)
end Go.Proofs.Ytbccejlemhgioaa
namespace Go.Proofs.Ytbccejlemhgioaa
open Go Go.RowKit Go.ChangeShapes cl rx
set_option maxHeartbeats 3200000 in
set_option maxRecDepth 100000 in
theorem rx_fail (q : Nat) (S : ByteArray) (t : St) (z co : Int) (w : World) (h : Rd q S t w) : Calls Try.prog 21 #[.pointer (some ⟨q, 0, none⟩), .int .i64 z, .int .i64 co] w (fun e w' => e = .returned (.tuple #[]) ∧ RK q S (t.fail z co) w w') := by
 have HR := Lib.hid h
 have c4 := boxc h 4 _ rfl
 have c3 := boxc h 3 _ rfl
 have f3 := boxf h 3
 have f4 := boxf h 4
 by_cases g : t.co = 0
 ·
  have HF : Hid (t.fail z co = { t with wr := z, co := co }) := by show _ = _; unfold St.fail; rw [if_pos g]
  have x1 : (w.setCell ⟨q, 3, none⟩ (.int .i64 z)).heap[q]? = some (.cells #[.string S, .int .i64 (t.p : Int), .int .i64 t.dp, .int .i64 z, .int .i64 t.co] 44) := heap_setCell_same w q 3 _ _ _ h
  have d4 := boxc x1 4 _ rfl
  have g4 := boxf x1 4
  have HP : Hid (RK q S { t with wr := z, co := co } w ((w.setCell ⟨q, 3, none⟩ (.int .i64 z)).setCell ⟨q, 4, none⟩ (.int .i64 co))) :=
   ⟨heap_setCell_same _ q 4 _ _ _ x1, KX.cell.trans KX.cell⟩
  rw [HF.out]
  rw [g] at c4 d4
  clear h x1 g
  go_enter Try.func21, Try.ntmps21
  go_wp2
  go_end0
  exact ⟨rfl, HP.out⟩
 ·
  have HF : Hid (t.fail z co = t) := by show _ = _; unfold St.fail; rw [if_neg g]
  rw [HF.out]
  clear h
  go_enter Try.func21, Try.ntmps21
  go_wp2
  go_end0
  exact ⟨rfl, HR.out, KX.refl⟩
set_option maxHeartbeats 3200000 in
set_option maxRecDepth 100000 in
theorem rx_next (q : Nat) (S : ByteArray) (t : St) (w : World) (h : Rd q S t w) (_hS : S.size ≤ 60) : Calls Try.prog 35 #[.pointer (some ⟨q, 0, none⟩)] w (fun e w' => e = .returned (.tuple #[.int .u8 (((nxt (kit.bytes S) t).getD 0 : Nat) : Int), .bool (nxt (kit.bytes S) t).isSome]) ∧ Below w.heap.size w w') := by
 have HR := Lib.hid h
 have c4 := boxc h 4 _ rfl
 have c1 := boxc h 1 _ rfl
 have c0 := boxc h 0 _ rfl
 by_cases g : t.co = 0
 ·
  by_cases g2 : t.p < S.size
  ·
   have HN : nxt (kit.bytes S) t = some (S[t.p]'g2).toNat := by unfold nxt; rw [if_pos g, byte_at g2]
   rw [HN]
   obtain ⟨p, hp⟩ : ∃ p, p = t.p := ⟨_, rfl⟩
   have g3 : p < S.size := by rw [hp]; exact g2
   have HB : (S[t.p]'g2).toNat = (S[p]'g3).toNat := by simp only [hp]
   rw [HB]
   rw [← hp] at c1
   rw [g] at c4
   have gi : (p : Int) < (S.size : Int) := by omega
   have X1 : Hid (w.heap[q]? = some (.cells #[.string S, .int .i64 (p : Int), .int .i64 t.dp, .int .i64 t.wr, .int .i64 t.co] 44)) := by show _ = _; rw [hp]; exact h
   clear h HN HB hp g2 g
   simp only [Option.getD_some, Option.isSome_some]
   go_enter Try.func35, Try.ntmps35
   go_wp2
   go_quiet (fail)
   have bd := below_drewN (Below.refl w.heap.size w) nq
   obtain ⟨W4, hW4⟩ : ∃ W, W = w.drewN nq := ⟨_, rfl⟩
   rw [← hW4] at bd ⊢
   have x4 := (bd.block q (lt_of_block X1.out)).trans X1.out
   have BD := Lib.hid bd
   clear c0 c1 c4 hW4 bd
   have c0 := boxc x4 0 _ rfl
   have c1 := boxc x4 1 _ rfl
   clear x4
   go_wp2
   go_quiet (fail)
   have bd2 := below_drewN (Below.refl W4.heap.size W4) nq
   obtain ⟨W5, hW5⟩ : ∃ W, W = W4.drewN nq := ⟨_, rfl⟩
   rw [← hW5] at bd2 ⊢
   have BD2 := Lib.hid (BD.out.trans (bd2.mono BD.out.size))
   clear hW5 bd2 c0 c1
   go_wp2
   refine bodyPost_ret (v := .tuple #[.int .u8 ((S[p]'g3).toNat : Int), .bool true]) (by simp [results, Try.results35, go_sem]) rfl ⟨rfl, BD2.out⟩
  ·
   have HN : nxt (kit.bytes S) t = none := by unfold nxt; rw [if_pos g, byte_no (by omega)]
   rw [HN]
   have gi : (S.size : Int) ≤ (t.p : Int) := by omega
   have gn : S.size ≤ t.p := by omega
   rw [g] at c4
   clear h HN g
   simp only [Option.getD_none, Option.isSome_none]
   go_enter Try.func35, Try.ntmps35
   go_wp2
   go_quiet (fail)
   have bd := below_drewN (Below.refl w.heap.size w) nq
   obtain ⟨W4, hW4⟩ : ∃ W, W = w.drewN nq := ⟨_, rfl⟩
   rw [← hW4] at bd ⊢
   have BD := Lib.hid bd
   clear c0 c1 c4 hW4 bd
   go_wp2
   refine bodyPost_ret (v := .tuple #[.int .u8 0, .bool false]) (by simp [results, Try.results35, go_sem]) rfl ⟨rfl, BD.out⟩
 ·
  have HN : nxt (kit.bytes S) t = none := by unfold nxt; rw [if_neg g]
  rw [HN]
  clear h HN
  simp only [Option.getD_none, Option.isSome_none]
  go_enter Try.func35, Try.ntmps35
  go_wp2
  go_quiet (fail)
  have bd := below_drewN (Below.refl w.heap.size w) nq
  obtain ⟨W4, hW4⟩ : ∃ W, W = w.drewN nq := ⟨_, rfl⟩
  rw [← hW4] at bd ⊢
  have BD := Lib.hid bd
  clear c0 c1 c4 hW4 bd
  go_wp2
  refine bodyPost_ret (v := .tuple #[.int .u8 0, .bool false]) (by simp [results, Try.results35, go_sem]) rfl ⟨rfl, BD.out⟩
theorem nxt_lt {S : ByteArray} {t : St} {c : Nat} (h : nxt (kit.bytes S) t = some c) : t.co = 0 ∧ t.p < S.size ∧ c < 256 := by
 unfold nxt at h
 split at h
 ·
  rename_i h0
  have hl : (kit.bytes S).length = S.size := by simp [kit.bytes]
  have hp := (List.getElem?_eq_some_iff.1 h).1
  exact ⟨h0, by omega, kit.bytes_lt S c (List.mem_of_getElem? h)⟩
 ·
  cases h
set_option maxHeartbeats 3200000 in
set_option maxRecDepth 100000 in
theorem rx_meets (q : Nat) (S : ByteArray) (t : St) (c : Nat) (w : World) (h : Rd q S t w) (hS : S.size ≤ 60) : Calls Try.prog 27 #[.pointer (some ⟨q, 0, none⟩), .int .u8 c] w (fun e w' => e = .returned (.bool (meets (kit.bytes S) c t).1) ∧ RK q S (meets (kit.bytes S) c t).2 w w') := by
 have HN := Lib.hid (rx_next q S t w h hS)
 have HR := Lib.hid h
 obtain ⟨o, ho⟩ : ∃ o, o = nxt (kit.bytes S) t := ⟨_, rfl⟩
 rw [← ho] at HN
 have HO := Lib.hid ho
 cases o with
 | none =>
  have HM : meets (kit.bytes S) c t = (false, t) := by unfold meets; rw [← ho]; simp
  rw [HM]
  clear h ho HM
  simp only [Option.getD_none, Option.isSome_none] at HN
  go_enter Try.func27, Try.ntmps27
  go_wp2_with fail
  (with_reducible refine HN.out.mono ?_)
  rintro e w3 ⟨rfl, b3⟩
  have R3 := Lib.hid (HR.out.next b3)
  have K3 := Lib.hid (KX.of (q := q) b3)
  clear b3
  go_wp2
  go_ret
  exact ⟨rfl, R3.out, K3.out⟩
 | some d =>
  obtain ⟨h0, hp, hd⟩ := nxt_lt ho.symm
  simp only [Option.getD_some, Option.isSome_some] at HN
  by_cases hdc : d = c
  ·
   have HM : meets (kit.bytes S) c t = (true, t.fwd) := by unfold meets; rw [← ho, if_pos (by rw [hdc])]
   rw [HM]
   subst hdc
   clear h ho HM
   go_enter Try.func27, Try.ntmps27
   go_wp2_with fail
   (with_reducible refine HN.out.mono ?_)
   rintro e w3 ⟨rfl, b3⟩
   have x3 := HR.out.next b3
   have K3 := KX.of (q := q) b3
   have c1 := boxc x3 1 _ rfl
   have f1 := boxf x3 1
   have HX : Hid (RK q S t.fwd w (w3.setCell ⟨q, 1, none⟩ (.int .i64 ((t.p : Int) + 1)))) := ⟨heap_setCell_same w3 q 1 _ _ _ x3, K3.trans KX.cell⟩
   clear x3 K3 b3
   go_wp2
   go_ret
   exact ⟨rfl, HX.out⟩
  ·
   have HM : meets (kit.bytes S) c t = (false, t) := by unfold meets; rw [← ho, if_neg (by simpa using hdc)]
   rw [HM]
   have hdi : ¬ (d : Int) = (c : Int) := by omega
   clear h ho HM
   go_enter Try.func27, Try.ntmps27
   go_wp2_with fail
   (with_reducible refine HN.out.mono ?_)
   rintro e w3 ⟨rfl, b3⟩
   have R3 := Lib.hid (HR.out.next b3)
   have K3 := Lib.hid (KX.of (q := q) b3)
   clear b3
   go_wp2
   go_ret
   exact ⟨rfl, R3.out, K3.out⟩
end Go.Proofs.Ytbccejlemhgioaa
namespace Go.Proofs
open Go.Shelf
def Try.lays137_ren : Go.Shelf.Ren := ⟨fun | 137 => 60 | 217 => 66 | 266 => 67 | n => n, fun | 9 => 9 | 5 => 5 | 3 => 3 | n => n, fun | n => n⟩
theorem Try.lays137 : Go.Proofs.Lays.n137 Try.prog Try.lays137_ren := {
 mixed := by kernel_rfl
 f137 := Try.func60.trans (congrArg some (by kernel_rfl))
 f217 := Try.func66.trans (congrArg some (by kernel_rfl))
 f266 := Try.func67.trans (congrArg some (by kernel_rfl))
 t3 := Try.underlying3
 a3 := Try.isAgg3
 z3 := Try.sizeOf3
 v3 := Try.zeroValue3
 t5 := Try.underlying5
 a5 := Try.isAgg5
 z5 := Try.sizeOf5
 v5 := Try.zeroValue5
 t9 := Try.underlying9
 a9 := Try.isAgg9
 z9 := Try.sizeOf9
 v9 := Try.zeroValue9 }
open Go.RowKit in
theorem Try.strings_IndexByte (s : ByteArray) (c : Int) (w : World) :
  Calls Try.prog 60 #[.string s, .int .u8 c] w fun e w' => e = .returned (.int .i64 (Lib.indexByte s.data.toList c.toNat.toUInt8)) ∧ w' = w := Any.strings_IndexByte Try.lays137 s c w
open Go.RowKit Go.Lib in
open Go.Lib in
open Go.Lib in
def Try.lays107_ren : Go.Shelf.Ren := ⟨fun | 107 => 38 | 108 => 43 | n => n, fun | 28 => 63 | 3 => 3 | 4 => 4 | 0 => 0 | n => n, fun | n => n⟩
theorem Try.lays107 : Go.Proofs.Lays.n107 Try.prog Try.lays107_ren := {
 mixed := by kernel_rfl
 f107 := Try.func38.trans (congrArg some (by kernel_rfl))
 f108 := Try.func43.trans (congrArg some (by kernel_rfl))
 t0 := Try.underlying0
 a0 := Try.isAgg0
 z0 := Try.sizeOf0
 v0 := Try.zeroValue0
 t3 := Try.underlying3
 a3 := Try.isAgg3
 z3 := Try.sizeOf3
 v3 := Try.zeroValue3
 t4 := Try.underlying4
 a4 := Try.isAgg4
 z4 := Try.sizeOf4
 v4 := Try.zeroValue4
 t28 := Try.underlying63
 a28 := Try.isAgg63
 z28 := Try.sizeOf63
 v28 := Try.zeroValue63 }
open Go.Lib in
theorem Try.slices_Contains_int (b off n c : Nat) (zs : List Int) (x : Int) (w : World) (hz : n ≤ zs.length) (hbig : n ≤ 9223372036854775807) (hc : ∀ j, j < zs.length → w.cell? ⟨b, off + j, none⟩ = some (.int .i64 (zs.getD j 0))) :
  Calls Try.prog 38 #[.slice (some ⟨b, off, none⟩) n c, .int .i64 x] w fun e w' => e = .returned (.bool ((zs.take n).contains x)) ∧ w' = w := Any.slices_Contains_int Try.lays107 b off n c zs x w hz hbig hc
open Go.Lib in
theorem Try.slices_Contains_int_empty (a : Option Addr) (c : Nat) (x : Int) (w : World) :
  Calls Try.prog 38 #[.slice a 0 c, .int .i64 x] w fun e w' => e = .returned (.bool false) ∧ w' = w := Any.slices_Contains_int_empty Try.lays107 a c x w
end Go.Proofs
namespace Go.Proofs.Ytbccejlemhgioaa
open Go Go.RowKit Go.ChangeShapes cl rx
theorem u64_and (a b : Nat) (ha : a < 18446744073709551616) (hb : b < 18446744073709551616) : bits .and .u64 (a : Int) (b : Int) = ((a &&& b : Nat) : Int) := by
 have hx : a &&& b < 2 ^ 64 := Nat.and_lt_two_pow _ (by omega)
 show IntKind.u64.wrap ((BitVec.ofInt 64 (a : Int) &&& BitVec.ofInt 64 (b : Int)).toNat : Int) = _
 rw [BitVec.toNat_and, ofInt_u64 a (by omega), ofInt_u64 b (by omega)]
 exact IntWalk.u64_in _ ⟨by omega, by omega⟩
theorem u64_or (a b : Nat) (ha : a < 18446744073709551616) (hb : b < 18446744073709551616) : bits .or .u64 (a : Int) (b : Int) = ((a ||| b : Nat) : Int) := by
 have hx : a ||| b < 2 ^ 64 := Nat.or_lt_two_pow (by omega) (by omega)
 show IntKind.u64.wrap ((BitVec.ofInt 64 (a : Int) ||| BitVec.ofInt 64 (b : Int)).toNat : Int) = _
 rw [BitVec.toNat_or, ofInt_u64 a (by omega), ofInt_u64 b (by omega)]
 exact IntWalk.u64_in _ ⟨by omega, by omega⟩
theorem pow_u64 {r : Nat} (h : r < 64) : IntKind.u64.wrap (2 ^ r) = ((2 ^ r : Nat) : Int) := by
 have h1 : (2 : Nat) ^ r < 2 ^ 64 := Nat.pow_lt_pow_right (by decide) h
 have e : ((2 : Int) ^ r) = ((2 ^ r : Nat) : Int) := by simp
 rw [e]
 obtain ⟨v, hv⟩ : ∃ v, v = 2 ^ r := ⟨_, rfl⟩
 rw [← hv] at h1 ⊢
 exact IntWalk.u64_in _ ⟨by omega, by omega⟩
theorem bit_u64 {n r : Nat} (hn : n < 18446744073709551616) : (bits .and .u64 ((n : Int) / 2 ^ r) 1 == 1) = n.testBit r := by
 have e : ((n : Int) / 2 ^ r) = ((n / 2 ^ r : Nat) : Int) := by simp
 have hlt : n / 2 ^ r ≤ n := Nat.div_le_self _ _
 have e1 : (1 : Int) = ((1 : Nat) : Int) := rfl
 rw [e, e1, u64_and _ _ (by omega) (by omega), Nat.testBit_eq_decide_div_mod_eq, Nat.and_one_is_mod]
 by_cases h : n / 2 ^ r % 2 = 1
 ·
  rw [h]; simp
 ·
  have : n / 2 ^ r % 2 = 0 := by omega
  rw [this]; simp
def rx.Cls.ok (k : Cls) : Prop := k.a < 18446744073709551616 ∧ k.b < 18446744073709551616 ∧ k.c < 18446744073709551616 ∧ k.d < 18446744073709551616
set_option maxHeartbeats 3200000 in
set_option maxRecDepth 100000 in
theorem rx_in (k : Cls) (c : Nat) (w : World) (hk : k.ok) (hc : c < 256) : Calls Try.prog 12 #[.agg #[.int .u64 k.a, .int .u64 k.b, .int .u64 k.c, .int .u64 k.d], .int .u8 c] w (fun e w' => e = .returned (.bool (k.has c)) ∧ Below w.heap.size w w') := by
 obtain ⟨ka, kb, kc, kd⟩ := hk
 rcases (by omega : c < 64 ∨ (64 ≤ c ∧ c < 128) ∨ (128 ≤ c ∧ c < 192) ∨ 192 ≤ c) with h | h | h | h
 ·
  have e1 : (c : Int) / 64 = 0 := by omega
  have e1n : c / 64 = 0 := by omega
  obtain ⟨r, hr⟩ : ∃ r, r = c % 64 := ⟨_, rfl⟩
  have e2 : (c : Int) % 64 = (r : Int) := by omega
  have e2n : c % 64 = r := hr.symm
  have hrl : r < 64 := by omega
  have HK : Hid (k.has c = (bits .and .u64 ((k.a : Int) / 2 ^ r) 1 == 1)) := by
   show _ = _
   rw [bit_u64 (by assumption)]
   unfold Cls.has Cls.wd
   rw [e2n]
   rw [if_pos (by omega)]
  clear hr
  go_enter Try.func12, Try.ntmps12
  go_wp2
  go_ret
  exact ⟨by rw [HK.out]; rfl, below1⟩
 ·
  have e1 : (c : Int) / 64 = 1 := by omega
  have e1n : c / 64 = 1 := by omega
  obtain ⟨r, hr⟩ : ∃ r, r = c % 64 := ⟨_, rfl⟩
  have e2 : (c : Int) % 64 = (r : Int) := by omega
  have e2n : c % 64 = r := hr.symm
  have hrl : r < 64 := by omega
  have HK : Hid (k.has c = (bits .and .u64 ((k.b : Int) / 2 ^ r) 1 == 1)) := by
   show _ = _
   rw [bit_u64 (by assumption)]
   unfold Cls.has Cls.wd
   rw [e2n]
   rw [if_neg (by omega), if_pos (by omega)]
  clear hr
  go_enter Try.func12, Try.ntmps12
  go_wp2
  go_ret
  exact ⟨by rw [HK.out]; rfl, below1⟩
 ·
  have e1 : (c : Int) / 64 = 2 := by omega
  have e1n : c / 64 = 2 := by omega
  obtain ⟨r, hr⟩ : ∃ r, r = c % 64 := ⟨_, rfl⟩
  have e2 : (c : Int) % 64 = (r : Int) := by omega
  have e2n : c % 64 = r := hr.symm
  have hrl : r < 64 := by omega
  have HK : Hid (k.has c = (bits .and .u64 ((k.c : Int) / 2 ^ r) 1 == 1)) := by
   show _ = _
   rw [bit_u64 (by assumption)]
   unfold Cls.has Cls.wd
   rw [e2n]
   rw [if_neg (by omega), if_neg (by omega), if_pos (by omega)]
  clear hr
  go_enter Try.func12, Try.ntmps12
  go_wp2
  go_ret
  exact ⟨by rw [HK.out]; rfl, below1⟩
 ·
  have e1 : (c : Int) / 64 = 3 := by omega
  have e1n : c / 64 = 3 := by omega
  obtain ⟨r, hr⟩ : ∃ r, r = c % 64 := ⟨_, rfl⟩
  have e2 : (c : Int) % 64 = (r : Int) := by omega
  have e2n : c % 64 = r := hr.symm
  have hrl : r < 64 := by omega
  have HK : Hid (k.has c = (bits .and .u64 ((k.d : Int) / 2 ^ r) 1 == 1)) := by
   show _ = _
   rw [bit_u64 (by assumption)]
   unfold Cls.has Cls.wd
   rw [e2n]
   rw [if_neg (by omega), if_neg (by omega), if_neg (by omega)]
  clear hr
  go_enter Try.func12, Try.ntmps12
  go_wp2
  go_ret
  exact ⟨by rw [HK.out]; rfl, below1⟩
set_option maxHeartbeats 3200000 in
set_option maxRecDepth 100000 in
theorem rx_single (c : Nat) (w : World) (hc : c < 256) : Calls Try.prog 13 #[.int .u8 c] w (fun e w' => e = .returned (.agg #[.int .u64 (Cls.one c).a, .int .u64 (Cls.one c).b, .int .u64 (Cls.one c).c, .int .u64 (Cls.one c).d]) ∧ Below w.heap.size w w') := by
 rcases (by omega : c < 64 ∨ (64 ≤ c ∧ c < 128) ∨ (128 ≤ c ∧ c < 192) ∨ 192 ≤ c) with h | h | h | h
 ·
  have e1 : (c : Int) / 64 = 0 := by omega
  have e1n : c / 64 = 0 := by omega
  obtain ⟨r, hr⟩ : ∃ r, r = c % 64 := ⟨_, rfl⟩
  have e2 : (c : Int) % 64 = (r : Int) := by omega
  have e2n : c % 64 = r := hr.symm
  have hrl : r < 64 := by omega
  have hw : IntKind.u64.wrap (2 ^ r) = ((2 ^ r : Nat) : Int) := pow_u64 hrl
  have HO : Cls.one c = ⟨2 ^ r, 0, 0, 0⟩ := by
   unfold Cls.one
   rw [if_pos (by omega), show c = r by omega]
  rw [HO]
  obtain ⟨v, hv⟩ : ∃ v, v = 2 ^ r := ⟨_, rfl⟩
  rw [← hv] at hw ⊢
  clear hr HO hv
  go_enter Try.func13, Try.ntmps13
  go_wp2
  refine bodyPost_ret (v := .agg #[.int .u64 (v : Int), .int .u64 0, .int .u64 0, .int .u64 0]) (by simp [results, Try.results13, go_sem]) rfl ⟨rfl, ?_⟩
  exact below1.trans (below1.mono (by simp))
 ·
  have e1 : (c : Int) / 64 = 1 := by omega
  have e1n : c / 64 = 1 := by omega
  obtain ⟨r, hr⟩ : ∃ r, r = c % 64 := ⟨_, rfl⟩
  have e2 : (c : Int) % 64 = (r : Int) := by omega
  have e2n : c % 64 = r := hr.symm
  have hrl : r < 64 := by omega
  have hw : IntKind.u64.wrap (2 ^ r) = ((2 ^ r : Nat) : Int) := pow_u64 hrl
  have HO : Cls.one c = ⟨0, 2 ^ r, 0, 0⟩ := by
   unfold Cls.one
   rw [if_neg (by omega), if_pos (by omega), show c - 64 = r by omega]
  rw [HO]
  obtain ⟨v, hv⟩ : ∃ v, v = 2 ^ r := ⟨_, rfl⟩
  rw [← hv] at hw ⊢
  clear hr HO hv
  go_enter Try.func13, Try.ntmps13
  go_wp2
  refine bodyPost_ret (v := .agg #[.int .u64 0, .int .u64 (v : Int), .int .u64 0, .int .u64 0]) (by simp [results, Try.results13, go_sem]) rfl ⟨rfl, ?_⟩
  exact below1.trans (below1.mono (by simp))
 ·
  have e1 : (c : Int) / 64 = 2 := by omega
  have e1n : c / 64 = 2 := by omega
  obtain ⟨r, hr⟩ : ∃ r, r = c % 64 := ⟨_, rfl⟩
  have e2 : (c : Int) % 64 = (r : Int) := by omega
  have e2n : c % 64 = r := hr.symm
  have hrl : r < 64 := by omega
  have hw : IntKind.u64.wrap (2 ^ r) = ((2 ^ r : Nat) : Int) := pow_u64 hrl
  have HO : Cls.one c = ⟨0, 0, 2 ^ r, 0⟩ := by
   unfold Cls.one
   rw [if_neg (by omega), if_neg (by omega), if_pos (by omega), show c - 128 = r by omega]
  rw [HO]
  obtain ⟨v, hv⟩ : ∃ v, v = 2 ^ r := ⟨_, rfl⟩
  rw [← hv] at hw ⊢
  clear hr HO hv
  go_enter Try.func13, Try.ntmps13
  go_wp2
  refine bodyPost_ret (v := .agg #[.int .u64 0, .int .u64 0, .int .u64 (v : Int), .int .u64 0]) (by simp [results, Try.results13, go_sem]) rfl ⟨rfl, ?_⟩
  exact below1.trans (below1.mono (by simp))
 ·
  have e1 : (c : Int) / 64 = 3 := by omega
  have e1n : c / 64 = 3 := by omega
  obtain ⟨r, hr⟩ : ∃ r, r = c % 64 := ⟨_, rfl⟩
  have e2 : (c : Int) % 64 = (r : Int) := by omega
  have e2n : c % 64 = r := hr.symm
  have hrl : r < 64 := by omega
  have hw : IntKind.u64.wrap (2 ^ r) = ((2 ^ r : Nat) : Int) := pow_u64 hrl
  have HO : Cls.one c = ⟨0, 0, 0, 2 ^ r⟩ := by
   unfold Cls.one
   rw [if_neg (by omega), if_neg (by omega), if_neg (by omega), show c - 192 = r by omega]
  rw [HO]
  obtain ⟨v, hv⟩ : ∃ v, v = 2 ^ r := ⟨_, rfl⟩
  rw [← hv] at hw ⊢
  clear hr HO hv
  go_enter Try.func13, Try.ntmps13
  go_wp2
  refine bodyPost_ret (v := .agg #[.int .u64 0, .int .u64 0, .int .u64 0, .int .u64 (v : Int)]) (by simp [results, Try.results13, go_sem]) rfl ⟨rfl, ?_⟩
  exact below1.trans (below1.mono (by simp))
set_option maxHeartbeats 3200000 in
set_option maxRecDepth 100000 in
theorem rx_class (k : Cls) (w : World) : Calls Try.prog 45 #[.agg #[.int .u64 k.a, .int .u64 k.b, .int .u64 k.c, .int .u64 k.d]] w (fun e w' => e = .returned (.agg #[.int .i64 2, .int .u64 k.a, .int .u64 k.b, .int .u64 k.c, .int .u64 k.d, .slice none 0 0, .int .i64 0, .int .i64 0]) ∧ Below w.heap.size w w') := by
 go_enter Try.func45, Try.ntmps45
 go_wp2
 refine bodyPost_ret (v := .agg #[.int .i64 2, .int .u64 k.a, .int .u64 k.b, .int .u64 k.c, .int .u64 k.d, .slice none 0 0, .int .i64 0, .int .i64 0]) (by simp [results, Try.results45, go_sem]) rfl ⟨rfl, ?_⟩
 exact below1.trans (below1.mono (by simp))
end Go.Proofs.Ytbccejlemhgioaa
namespace Go.Proofs.Ytbccejlemhgioaa
open Go Go.RowKit Go.ChangeShapes cl rx
def spB (c : Nat) : Bool := decide (0 ≤ Lib.indexByte [92, 46, 43, 42, 63, 40, 41, 124, 91, 93, 123, 125, 94, 36, 45] (c : Int).toNat.toUInt8)
theorem rx_special (c : Nat) (w : World) : Calls Try.prog 49 #[.int .u8 c] w (fun e w' => e = .returned (.bool (spB c)) ∧ w' = w) := by
 have HI := Lib.hid (Try.strings_IndexByte ⟨#[92, 46, 43, 42, 63, 40, 41, 124, 91, 93, 123, 125, 94, 36, 45]⟩ (c : Int) w)
 obtain ⟨z, hz⟩ : ∃ z, z = Lib.indexByte [92, 46, 43, 42, 63, 40, 41, 124, 91, 93, 123, 125, 94, 36, 45] (c : Int).toNat.toUInt8 := ⟨_, rfl⟩
 have HZ : Hid (Calls Try.prog 60 #[.string ⟨#[92, 46, 43, 42, 63, 40, 41, 124, 91, 93, 123, 125, 94, 36, 45]⟩, .int .u8 c] w (fun e w' => e = .returned (.int .i64 z) ∧ w' = w)) := by rw [hz]; exact HI.out
 unfold spB
 rw [← hz]
 clear HI hz
 go_enter Try.func49, Try.ntmps49
 go_wp2_with fail
 (with_reducible refine HZ.out.mono ?_)
 rintro e3 w3 ⟨rfl, rfl⟩
 go_wp2
 go_ret
 exact ⟨rfl, rfl⟩
end Go.Proofs.Ytbccejlemhgioaa
namespace Go.Proofs.Ytbccejlemhgioaa
open Go Go.RowKit Go.ChangeShapes cl rx
def RxO (B : Nat) (d : Nat) (L : List Pat) (v : Value) (W : World) : Prop := ∃ cs : List (List Value), cs.length = L.length ∧ (∀ (j : Nat) (c : List Value) (x : Pat), cs[j]? = some c → L[j]? = some x → FreA B v.ownBlock W (fun W => c.length = 8 ∧ rxR d W W.heap.size c x)) ∧ W.ownsRow B 28 8 v L.length cs.flatten
theorem RxO.next {B d : Nat} {L : List Pat} {v : Value} {W W' : World} (h : RxO B d L v W) (hb : Below W.heap.size W W') : RxO B d L v W' := by
 obtain ⟨cs, h0, h1, h2⟩ := h
 exact ⟨cs, h0, fun j c x hc hx => (h1 j c x hc hx).next hb, own_stay h2 hb⟩
theorem RxO.kx {B d q : Nat} {L : List Pat} {v : Value} {W W' : World} (h : RxO B d L v W) (hk : KX q W W') (hq : q < B) : RxO B d L v W' := by
 obtain ⟨cs, h0, h1, h2⟩ := h
 exact ⟨cs, h0, fun j c x hc hx => FreA.step (h1 j c x hc hx) hk.2.1 (fun j hB hj _ => hk.2.2 j hj (by omega)) (Or.inl rfl), own_kx h2 hk hq⟩
theorem RxO.nil {B d : Nat} {W : World} : RxO B d [] (.slice none 0 0) W := ⟨[], rfl, fun j c x hc => by simp at hc, World.ownsRow_nil _ _ _ _⟩
theorem rx_one {d : Nat} {w : World} {B : Nat} {c : List Value} {x : Pat} (h : rxR d w B c x) : c.length = 8 ∧ ∀ u ∈ c, u.oneCell' = true := by
 obtain ⟨ko, kn, kc, rfl⟩ := rx_form h
 refine ⟨rfl, fun u hu => ?_⟩
 simp only [List.mem_cons, List.not_mem_nil, or_false] at hu
 rcases hu with rfl | rfl | rfl | rfl | rfl | rfl | rfl | rfl <;> rfl
end Go.Proofs.Ytbccejlemhgioaa
namespace Go.Proofs.Ytbccejlemhgioaa.rf
open rx
section
variable {s : List Nat} {t t' : T}
@[simp] theorem fail_p (a b : Int) : (t.fail a b).p = t.p := by unfold T.fail; split <;> rfl
theorem nxt_some {c : Nat} (h : nxt s t = some c) : t.co = 0 ∧ s[t.p]? = some c ∧ t.p < s.length := by
 unfold nxt at h
 split at h
 ·
  exact ⟨by assumption, h, (List.getElem?_eq_some_iff.1 h).1⟩
 ·
  cases h
def Pr (s : List Nat) (t t' : T) : Prop := t.p ≤ t'.p ∧ (t.p ≤ s.length → t'.p ≤ s.length)
theorem Pr.refl : Pr s t t := ⟨Nat.le_refl _, id⟩
theorem Pr.trans {t1 t2 : T} (h : Pr s t t1) (k : Pr s t1 t2) : Pr s t t2 := ⟨Nat.le_trans h.1 k.1, fun e => k.2 (h.2 e)⟩
theorem Pr.fail (h : Pr s t t') (a b : Int) : Pr s t (t'.fail a b) := by unfold Pr; rw [fail_p]; exact h
theorem Pr.fwd (h : t.p < s.length) : Pr s t t.fwd := ⟨Nat.le_succ _, fun _ => h⟩
theorem meets_pr (c : Nat) : Pr s t (meets s c t).2 := by
 unfold meets
 split
 ·
  rename_i h; exact Pr.fwd (nxt_some h).2.2
 ·
  exact Pr.refl
theorem hex_len {c v : Nat} (h : hex s c t = some v) : t.p + 1 < s.length := by
 unfold hex at h
 split at h
 ·
  split at h
  ·
   rename_i h2; exact (List.getElem?_eq_some_iff.1 h2).1
  ·
   cases h
 ·
  cases h
theorem escape_pr (a : Nat) : Pr s t (escape s a t).2 := by
 unfold escape
 split
 ·
  exact Pr.refl.fail _ _
 ·
  rename_i c hc
  have hl := (nxt_some hc).2.2
  split
  ·
   exact Pr.fwd hl
  ·
   split
   ·
    exact Pr.fwd hl
   ·
    split
    ·
     exact Pr.fwd hl
    ·
     split
     ·
      rename_i h
      have := hex_len h
      simp only [T.fwd] at this
      refine ⟨by simp only [T.fwd]; omega, fun _ => by simp only [T.fwd]; omega⟩
     ·
      exact (Pr.fwd hl).fail _ _
theorem single_pr : Pr s t (single s t).2 := by
 unfold single
 split
 ·
  exact Pr.refl
 ·
  rename_i c hc
  have hl := (List.getElem?_eq_some_iff.1 hc).1
  split
  ·
   exact (Pr.fwd hl).trans (escape_pr _)
  ·
   split
   ·
    exact (Pr.fwd hl).fail _ _
   ·
    exact Pr.fwd hl
theorem single_lt (h : t.p < s.length) : t.p < (single s t).2.p := by
 unfold single
 rw [List.getElem?_eq_getElem h]
 simp only
 split
 ·
  exact Nat.lt_of_lt_of_le (Nat.lt_succ_self _) (escape_pr (t := t.fwd) _).1
 ·
  split
  ·
   rw [fail_p]; exact Nat.lt_succ_self _
  ·
   exact Nat.lt_succ_self _
theorem member_pr : Pr s t (member s t).2 ∧ (single s t).2.p ≤ (member s t).2.p := by
 have h0 : Pr s t (single s t).2 := single_pr
 have h1 := h0.trans (meets_pr (s := s) 45)
 have g1 := (meets_pr (s := s) (t := (single s t).2) 45).1
 unfold member
 simp only
 split
 ·
  exact ⟨h0, Nat.le_refl _⟩
 ·
  split
  ·
   exact ⟨h1, g1⟩
  ·
   split
   ·
    exact ⟨h1.fail _ _, by rw [fail_p]; exact g1⟩
   ·
    split
    ·
     exact ⟨h1.fail _ _, by rw [fail_p]; exact g1⟩
    ·
     have h2 := single_pr (s := s) (t := (meets s 45 (single s t).2).2)
     split
     ·
      exact ⟨(h1.trans h2).fail _ _, by rw [fail_p]; exact Nat.le_trans g1 h2.1⟩
     ·
      exact ⟨h1.trans h2, Nat.le_trans g1 h2.1⟩
theorem member_lt (h : t.p < s.length) : t.p < (member s t).2.p := Nat.lt_of_lt_of_le (single_lt h) member_pr.2
theorem mems_pr (a : Nat) : ∀ (f : Nat) (x : Cls) (t : T), Pr s t (mems s a f x t).2.1
 | 0, _, _ => Pr.refl
 | f + 1, x, t => by
  unfold mems
  simp only
  split
  ·
   exact meets_pr _
  ·
   split
   ·
    exact Pr.refl.fail _ _
   ·
    exact member_pr.1.trans (mems_pr a f _ _)
theorem members_pr (a : Nat) : Pr s t (members s a t).2 := by
 have h : Pr s t (mems s a (s.length + 1) .zero (meets s 94 t).2).2.1 := (meets_pr _).trans (mems_pr a _ _ _)
 unfold members
 simp only
 split
 ·
  exact h
 ·
  split <;> split
  ·
   exact h.fail _ _
  ·
   exact h
  ·
   exact h.fail _ _
  ·
   exact h
theorem numF_pr (a : Nat) : ∀ (f n : Nat) (t : T), Pr s t (numF s a f n t).2
 | 0, _, _ => Pr.refl
 | f + 1, n, t => by
  unfold numF
  split
  ·
   exact Pr.refl
  ·
   rename_i c hc
   split
   ·
    exact (Pr.fwd (nxt_some hc).2.2).trans (numF_pr a f _ _)
   ·
    exact Pr.refl
theorem number_pr : Pr s t (number s t).2 := numF_pr _ _ _ _
theorem bounds_pr : Pr s t (bounds s t).2 := by
 have h1 : Pr s t (number s t).2 := number_pr
 unfold bounds
 simp only
 split
 ·
  exact h1
 ·
  split
  ·
   exact h1.trans (meets_pr _)
  ·
   split
   ·
    exact h1
   ·
    have h2 := h1.trans (meets_pr (s := s) 44)
    split
    ·
     exact h2.trans (meets_pr _)
    ·
     have h3 := h2.trans number_pr
     split
     ·
      exact h3
     ·
      split <;> exact h3.trans (meets_pr _)
theorem often_pr : Pr s t (often s t).2 := by
 unfold often
 split
 ·
  rename_i h; exact Pr.fwd (nxt_some h).2.2
 ·
  split
  ·
   rename_i h; exact Pr.fwd (nxt_some h).2.2
  ·
   split
   ·
    rename_i h; exact Pr.fwd (nxt_some h).2.2
   ·
    split
    ·
     rename_i h
     have h1 := (Pr.fwd (nxt_some h).2.2).trans (bounds_pr (s := s) (t := t.fwd))
     simp only
     split
     ·
      exact h1.fail _ _
     ·
      split
      ·
       exact h1.fail _ _
      ·
       exact h1
    ·
     exact Pr.refl
end
mutual
def sz : Pat → Nat | .mk _ _ ks _ _ => 1 + szs ks
def szs : List Pat → Nat | [] => 0 | x :: l => sz x + szs l
end
theorem sz_pos : ∀ x : Pat, 1 ≤ sz x | .mk _ _ _ _ _ => by unfold sz; omega
theorem szs_app : ∀ l m : List Pat, szs (l ++ m) = szs l + szs m
 | [], m => by simp [szs]
 | x :: l, m => by simp only [List.cons_append, szs, szs_app l m]; omega
theorem szs_len : ∀ l : List Pat, l.length ≤ szs l
 | [] => by simp [szs]
 | x :: l => by have := szs_len l; have := sz_pos x; simp only [List.length_cons, szs]; omega
theorem ks_sz : ∀ x : Pat, szs x.ks + 1 = sz x | .mk _ _ _ _ _ => by simp only [Pat.ks, sz]; omega
theorem szs_flat (kind : Int) : ∀ l : List Pat, szs (Pat.flat kind l) ≤ szs l
 | [] => Nat.le_refl _
 | x :: l => by
  have h := szs_flat kind l
  unfold Pat.flat at h ⊢
  rw [List.flatMap_cons, szs_app]
  simp only [szs]
  have := ks_sz x
  split
  ·
   omega
  ·
   simp only [szs]; omega
theorem sz_gather (kind : Int) (l : List Pat) : sz (Pat.gather kind l) ≤ 1 + szs l := by
 have h := szs_flat kind l
 unfold Pat.gather
 split
 ·
  simp only [sz, szs]; omega
 ·
  rename_i x e; rw [e] at h; simp only [szs] at h; omega
 ·
  simp only [sz]; omega
def Good (s : List Nat) (a : Nat) (O : T → Pat × T) : Prop := ∀ t : T, t.p < s.length → t.p < (O t).2.p ∧ (O t).2.p ≤ s.length ∧ sz (O t).1 ≤ a * ((O t).2.p - t.p)
section
variable {s : List Nat} {a : Nat} {O : T → Pat × T}
theorem sz_many (x : Pat) (o : Int × Int × Bool) : sz (many x o) ≤ sz x + 1 := by
 unfold many
 split
 ·
  omega
 ·
  split
  ·
   omega
  ·
   simp only [sz, szs]; omega
theorem part_good (h : Good s a O) (t : T) (ht : t.p < s.length) : t.p < (part s O t).2.p ∧ (part s O t).2.p ≤ s.length ∧ sz (part s O t).1 ≤ a * ((part s O t).2.p - t.p) + 1 := by
 obtain ⟨h1, h2, h3⟩ := h t ht
 have h4 := often_pr (s := s) (t := (O t).2)
 unfold part
 simp only
 refine ⟨Nat.lt_of_lt_of_le h1 h4.1, h4.2 h2, Nat.le_trans (sz_many _ _) ?_⟩
 have : a * ((O t).2.p - t.p) ≤ a * ((often s (O t).2).2.p - t.p) := Nat.mul_le_mul_left _ (by have := h4.1; omega)
 omega
theorem parts_good (h : Good s a O) : ∀ (f : Nat) (t : T) (l : List Pat), t.p ≤ s.length → t.p ≤ (parts s O f t l).2.p ∧ (parts s O f t l).2.p ≤ s.length ∧ szs (parts s O f t l).1 ≤ szs l + (a + 1) * ((parts s O f t l).2.p - t.p)
 | 0, t, l, ht => ⟨Nat.le_refl _, ht, Nat.le_add_right _ _⟩
 | f + 1, t, l, ht => by
  unfold parts
  split
  ·
   exact ⟨Nat.le_refl _, ht, Nat.le_add_right _ _⟩
  ·
   rename_i c hc
   split
   ·
    exact ⟨Nat.le_refl _, ht, Nat.le_add_right _ _⟩
   ·
    obtain ⟨g1, g2, g3⟩ := part_good h t (nxt_some hc).2.2
    simp only
    obtain ⟨k1, k2, k3⟩ := parts_good h f (part s O t).2 (if (part s O t).1.k ≠ 1 then l ++ [(part s O t).1] else l) g2
    refine ⟨by omega, k2, ?_⟩
    generalize (parts s O f (part s O t).2 (if (part s O t).1.k ≠ 1 then l ++ [(part s O t).1] else l)) = r at k1 k2 k3 ⊢
    have e1 : szs (if (part s O t).1.k ≠ 1 then l ++ [(part s O t).1] else l) ≤ szs l + sz (part s O t).1 := by
     split
     ·
      rw [szs_app]; simp only [szs]; omega
     ·
      omega
    have e2 : (a + 1) * (r.2.p - t.p) = (a + 1) * (r.2.p - (part s O t).2.p) + (a + 1) * ((part s O t).2.p - t.p) := by rw [← Nat.mul_add]; congr 1; omega
    have e3 : a * ((part s O t).2.p - t.p) + 1 ≤ (a + 1) * ((part s O t).2.p - t.p) := by rw [Nat.succ_mul]; omega
    omega
theorem row_good (h : Good s a O) (t : T) (ht : t.p ≤ s.length) : t.p ≤ (row s O t).2.p ∧ (row s O t).2.p ≤ s.length ∧ sz (row s O t).1 ≤ (a + 1) * ((row s O t).2.p - t.p) + 1 := by
 obtain ⟨h1, h2, h3⟩ := parts_good h (s.length + 1) t [] ht
 unfold row
 simp only
 refine ⟨h1, h2, Nat.le_trans (sz_gather _ _) ?_⟩
 simp only [szs] at h3
 omega
theorem rowsL_good (h : Good s a O) : ∀ (f : Nat) (t : T) (l : List Pat), t.p ≤ s.length → t.p ≤ (rowsL s O f t l).2.p ∧ (rowsL s O f t l).2.p ≤ s.length ∧ szs (rowsL s O f t l).1 ≤ szs l + (a + 1) * ((rowsL s O f t l).2.p - t.p)
 | 0, t, l, ht => ⟨Nat.le_refl _, ht, Nat.le_add_right _ _⟩
 | f + 1, t, l, ht => by
  unfold rowsL
  simp only
  split
  ·
   rename_i hm
   have hn : nxt s t = some 124 := by
    unfold meets at hm
    split at hm
    ·
     assumption
    ·
     cases hm
   have hm2 : (meets s 124 t).2 = t.fwd := by unfold meets; rw [if_pos hn]
   rw [hm2]
   obtain ⟨g1, g2, g3⟩ := row_good h t.fwd (nxt_some hn).2.2
   obtain ⟨k1, k2, k3⟩ := rowsL_good h f (row s O t.fwd).2 (l ++ [(row s O t.fwd).1]) g2
   have g0 : t.fwd.p = t.p + 1 := rfl
   refine ⟨by omega, k2, ?_⟩
   generalize (rowsL s O f (row s O t.fwd).2 (l ++ [(row s O t.fwd).1])) = r at k1 k2 k3 ⊢
   rw [szs_app] at k3
   simp only [szs] at k3
   have e2 : (a + 1) * (r.2.p - t.p) = (a + 1) * (r.2.p - (row s O t.fwd).2.p) + (a + 1) * ((row s O t.fwd).2.p - t.fwd.p) + (a + 1) := by
    rw [← Nat.mul_add, ← Nat.mul_succ]; congr 1; omega
   omega
  ·
   exact ⟨Nat.le_refl _, ht, Nat.le_add_right _ _⟩
theorem rows_good (h : Good s a O) (t : T) (ht : t.p ≤ s.length) : t.p ≤ (rows s O t).2.p ∧ (rows s O t).2.p ≤ s.length ∧ sz (rows s O t).1 ≤ (a + 1) * ((rows s O t).2.p - t.p) + 2 := by
 obtain ⟨h1, h2, h3⟩ := row_good h t ht
 obtain ⟨k1, k2, k3⟩ := rowsL_good h (s.length + 1) (row s O t).2 [(row s O t).1] h2
 unfold rows
 simp only
 refine ⟨Nat.le_trans h1 k1, k2, Nat.le_trans (sz_gather _ _) ?_⟩
 simp only [szs] at k3
 have e2 : (a + 1) * ((rowsL s O (s.length + 1) (row s O t).2 [(row s O t).1]).2.p - t.p) = (a + 1) * ((rowsL s O (s.length + 1) (row s O t).2 [(row s O t).1]).2.p - (row s O t).2.p) + (a + 1) * ((row s O t).2.p - t.p) := by rw [← Nat.mul_add]; congr 1; omega
 omega
end
theorem base_good {s : List Nat} {a : Nat} (ha : 1 ≤ a) (G : Nat → T → Pat × T) (hG : ∀ t : T, t.p < s.length → t.p + 1 ≤ (G t.p t.fwd).2.p ∧ (G t.p t.fwd).2.p ≤ s.length ∧ sz (G t.p t.fwd).1 ≤ a * ((G t.p t.fwd).2.p - t.p)) : Good s a (onceB s G) := by
 intro t ht
 have hz : ∀ (k : Cls) (p : Nat), t.p + 1 ≤ p → sz (Pat.ofCls k) ≤ a * (p - t.p) := fun k p h => by
  have : sz (Pat.ofCls k) = 1 := rfl
  have : 1 * 1 ≤ a * (p - t.p) := Nat.mul_le_mul ha (by omega)
  omega
 have hz0 : ∀ (p : Nat), t.p + 1 ≤ p → sz Pat.zero ≤ a * (p - t.p) := fun p h => by
  have : sz Pat.zero = 1 := rfl
  have : 1 * 1 ≤ a * (p - t.p) := Nat.mul_le_mul ha (by omega)
  omega
 unfold onceB
 rw [List.getElem?_eq_getElem ht]
 simp only
 have hf := Pr.fwd ht
 have e : t.fwd.p = t.p + 1 := rfl
 split
 ·
  obtain ⟨h1, h2, h3⟩ := hG t ht
  exact ⟨by omega, h2, h3⟩
 ·
  split
  ·
   have h1 := members_pr (s := s) (t := t.fwd) t.p
   have h2 := h1.1
   exact ⟨by show t.p < (members s t.p t.fwd).2.p; omega, h1.2 ht, hz _ _ (by rw [← e]; exact h2)⟩
  ·
   split
   ·
    have h1 := escape_pr (s := s) (t := t.fwd) t.p
    have h2 := h1.1
    exact ⟨by show t.p < (escape s t.p t.fwd).2.p; omega, h1.2 ht, hz _ _ (by rw [← e]; exact h2)⟩
   ·
    split
    ·
     exact ⟨by show t.p < t.p + 1; omega, ht, hz _ _ (Nat.le_refl _)⟩
    ·
     split
     ·
      exact ⟨by show t.p < t.p + 1; omega, ht, hz _ _ (Nat.le_refl _)⟩
     ·
      refine ⟨by show t.p < (t.fwd.fail t.p 9).p; rw [fail_p]; omega, by show (t.fwd.fail t.p 9).p ≤ _; rw [fail_p]; exact ht, hz0 _ (by rw [fail_p]; exact Nat.le_refl _)⟩
theorem once_good {s : List Nat} : ∀ n, Good s (2 * n + 1) (once s n)
 | 0 => by
  refine base_good (by omega) _ fun t ht => ?_
  simp only [fail_p]
  refine ⟨Nat.le_refl _, ht, ?_⟩
  have : sz Pat.zero = 1 := rfl
  show sz Pat.zero ≤ 1 * (t.p + 1 - t.p)
  omega
 | n + 1 => by
  refine base_good (by omega) _ fun t ht => ?_
  obtain ⟨h1, h2, h3⟩ := rows_good (once_good (s := s) n) t.fwd ht
  have h4 := meets_pr (s := s) (t := (rows s (once s n) t.fwd).2) 41
  have e : t.fwd.p = t.p + 1 := rfl
  simp only
  have key : ∀ q : Nat, (rows s (once s n) t.fwd).2.p ≤ q → q ≤ s.length → t.p + 1 ≤ q ∧ q ≤ s.length ∧ sz (rows s (once s n) t.fwd).1 ≤ (2 * (n + 1) + 1) * (q - t.p) := by
   intro q hq hl
   refine ⟨by omega, hl, Nat.le_trans h3 ?_⟩
   have e1 : (2 * (n + 1) + 1) * (q - t.p) = (2 * n + 1 + 1) * (q - t.p) + (q - t.p) := by rw [show 2 * (n + 1) + 1 = (2 * n + 1 + 1) + 1 by omega, Nat.succ_mul]
   have e2 : (2 * n + 1 + 1) * (q - t.p) = (2 * n + 1 + 1) * (q - t.fwd.p) + (2 * n + 1 + 1) := by rw [← Nat.mul_succ]; congr 1; omega
   have e3 : (2 * n + 1 + 1) * ((rows s (once s n) t.fwd).2.p - t.fwd.p) ≤ (2 * n + 1 + 1) * (q - t.fwd.p) := Nat.mul_le_mul_left _ (by omega)
   omega
  split
  ·
   exact key _ h4.1 (h4.2 h2)
  ·
   rw [fail_p]; exact key _ h4.1 (h4.2 h2)
end Go.Proofs.Ytbccejlemhgioaa.rf
