/- What the operations on leaves are, one by one. -/
import Derived.Test.YtckmnmcnelfkjaaGreatDoorVdEnc
set_option linter.unusedVariables false
namespace Go.Vd
variable {A:Ar}
theorem Mz(k)(a)(b):std.add k a b=(k.wrap (a+b)):=rfl
theorem MA(k)(a)(b):std.sub k a b=(k.wrap (a - b)):=rfl
theorem MB(k)(a)(b):std.mul k a b=(k.wrap (a*b)):=rfl
theorem MC(k)(a)(b):std.quo k a b=(k.wrap (a.tdiv b)):=rfl
theorem MD(a)(b):std.rem a b=(a.tmod b):=rfl
theorem IW(k)(a)(b):std.band k a b=(bits .and k a b):=rfl
theorem ME(k)(a)(b):std.bor k a b=(bits .or k a b):=rfl
theorem IX(k)(a)(b):std.bxor k a b=(bits .xor k a b):=rfl
theorem MF(k)(a)(b):std.shl k a b=(k.wrap (a*2 ^(min b.toNat k.bits))):=rfl
theorem MG(k)(a)(b):std.shr k a b=(a.fdiv (2 ^(min b.toNat k.bits))):=rfl
theorem Pc(a)(b):std.eq a b=(a==b):=rfl
theorem Pd(a)(b):std.ne a b=(a !=b):=rfl
theorem Pe(a)(b):std.lt a b=(decide (a<b)):=rfl
theorem Pf(a)(b):std.le a b=(decide (a<=b)):=rfl
theorem IY(k)(n):std.conv k n=(k.wrap n):=rfl
theorem MH(b):std.not b=(!b):=rfl
theorem MI(a)(b):std.beq a b=(a==b):=rfl
theorem MJ(a)(b):std.bne a b=(!(a==b)):=rfl
theorem MK(c)(p)(q):std.ite c p q=(bif c then p else q):=rfl
theorem IZ(c)(d)(w):std.want c d w=(c &&(d==w)):=rfl
theorem I0(a)(b):std.and2 a b=(a && b):=rfl
theorem I1(a)(b):std.sadd a b=(a++b):=rfl
theorem ML(a)(b):std.seq a b=(a==b):=rfl
theorem MN(a)(b):std.sne a b=(!(a==b)):=rfl
theorem MO(a)(b):std.slt a b=(Op.bytesLess a b):=rfl
theorem MP(a)(b):std.sle a b=(Op.bytesLess a b|| (a==b)):=rfl
theorem MQ(a)(b):std.sgt a b=(!(Op.bytesLess a b|| (a==b))):=rfl
theorem MR(a)(b):std.sge a b=(!Op.bytesLess a b):=rfl
theorem I3(s):std.slen s=((s.length:Int)):=rfl
theorem I4(s)(i):std.sget s i=(((s[i.toNat]?.getD 0).toNat:Int)):=rfl
theorem I5(s)(a)(b):std.scut s a b=((s.take b.toNat).drop a.toNat):=rfl
theorem Ga(n):std.ofNat n=((n:Int)):=rfl
theorem Gb(i):std.toNat i=(i.toNat):=rfl
theorem I6(a)(b):std.nsub a b=(a - b):=rfl
theorem I7(a)(b):std.nadd a b=(a+b):=rfl
theorem Gc(l):std.lenOf l=(l.length):=rfl
theorem Pg(b):std.nz b=(b≠0):=rfl
theorem I8(b):std.nneg b=(0<=b):=rfl
theorem MS(i)(n):std.inb i n=(0<=i∧i<(n:Int)):=rfl
theorem I9(a)(b):std.upto a b=(a<=b):=rfl
theorem Ge(a)(b):std.slt63 a b=(a.length+b.length<=9223372036854775807):=rfl
theorem Ja(n)(m)(b):std.grow n m b=(n+m<=9223372036854775807∧(n+m)*b<=140737488355328):=rfl
theorem MT(c)(p):std.imp c p=(c=true->p):=rfl
theorem Jb(c)(p):std.impN c p=(c=false->p):=rfl
theorem Ph(c):std.tr c=(c=true):=rfl
theorem Pi(f):std.tb f=(f ()):=rfl
theorem Pj(f):std.ti f=(f ()):=rfl
theorem Pk(f):std.ts f=(f ()):=rfl
theorem Pl(f):std.tn f=(f ()):=rfl
theorem Pm(f):std.tp f=(f ()):=rfl
theorem Jc(a)(b):std.nmin a b=(Nat.min a b):=rfl
theorem Jd(g i n j):std.nset g i n j=(if j=i then n else g j):=rfl
theorem Je(f i g j):std.fset f i g j=(if j=i then g else f j):=rfl
theorem Gf(a)(b)(by_):std.makes a b by_=(0<=a∧a<=b∧b<=9223372036854775807∧b.toNat*by_<=140737488355328):=rfl
theorem Jf(b)(m)(n):std.room b m n=(0<n∧b+m<=n):=rfl
theorem Gg(z)(by_):std.zeros z by_=(0<z∧z<=4611686018427387904∧z.toNat*by_<=140737488355328):=rfl
theorem Jg(b)(n):std.nilq b n=(b=true->n=0):=rfl
theorem MU(s):std.zOf s=uD s:=rfl
theorem MV(k n):uD (.int k n)=n:=rfl
theorem MW(k s):std.isI k s=uE k s:=rfl
theorem Jh(l n):std.getL l n=ap l n:=rfl
theorem Ji(a b):std.nmul a b=a*b:=rfl
theorem MX(s):std.sOf s=uF s:=rfl
theorem MY(l):uF (.str l)=l:=rfl
theorem MZ(s):std.isS s=uG s:=rfl
theorem Jj(a b):std.fadd a b=(Ieee.double.add a b).getD 0:=rfl
theorem Jk(a b):std.fsub a b=(Ieee.double.sub a b).getD 0:=rfl
theorem M0(a b):std.fav a b=((Ieee.double.add a b).isSome=true):=rfl
theorem M3(a b):std.fsv a b=((Ieee.double.sub a b).isSome=true):=rfl
theorem M4(a b):std.feq a b=(Ieee.double.order a b==some .eq):=rfl
theorem M5(a b):std.fne a b=(Ieee.double.order a b !=some .eq):=rfl
theorem M6(a b):std.flt a b=(Ieee.double.order a b==some .lt):=rfl
theorem M7(a b):std.fle a b=(Ieee.double.order a b==some .lt||Ieee.double.order a b==some .eq):=rfl
theorem M8(a b):std.fgt a b=(Ieee.double.order a b==some .gt):=rfl
theorem M9(a b):std.fge a b=(Ieee.double.order a b==some .gt||Ieee.double.order a b==some .eq):=rfl
theorem Na(n):std.fOf n=FloatKind.f64.nearest n:=rfl
theorem Nb(b):std.fTo b=((FloatKind.f64.decode b).toInt .zero).getD 0:=rfl
theorem Nc(k b):std.fTv k b= ∃ n,(FloatKind.f64.decode b).toInt .zero=some n∧k.min<=n∧n<=k.max:=rfl
theorem Nd(l):uG (.str l):=⟨l,rfl⟩
theorem Co(k n):uE k (.int k n):=⟨n,rfl⟩
theorem Jl(b)(n):std.notq b n=(b=false->n=0):=rfl
theorem Nf(a)(b):std.eqi a b=(a=b):=rfl
theorem Ng(a)(b):std.eqn a b=(a=b):=rfl
theorem Nh(a)(b):std.eqb a b=(a=b):=rfl
theorem Ni(a)(b):std.eqs a b=(a=b):=rfl
theorem Nj(a)(b):std.eqv a b=(a=b):=rfl
theorem Nk(n f g):std.cat n f g=bd n f g:=rfl
theorem Nl(l):std.lst l=bf l:=rfl
theorem Jm(f i off l):std.rset f i off l=a8 f i off l:=rfl
theorem Gh(f lo m g):std.rcopy f lo m g=aO f lo m g:=rfl
theorem Gi(f lo):std.shift f lo=aI f lo:=rfl
theorem Nm(n k f g):std.eqr n k f g=ba n k f g:=rfl
theorem Gj(n f):std.strOf n f=aM n f:=rfl
theorem A5(l):std.bytesOf l=aE l:=rfl
theorem Nn(n f):std.isB n f=bw n f:=rfl
theorem Gk(L:List UInt8):aM L.length (ax eB 0 std fun _=>L)=L:=F9 (.lit L)
theorem Jn(M a b n):std.mput M a b n=dh M a b n:=rfl
theorem Jo(M a b):std.mget M a b=dx M a b:=rfl
theorem Jp(M):std.mlen M=(M.length:Int):=rfl
theorem Np(b):std.b2i b=(bif b then 1 else 0):=rfl
theorem Nq(n):std.i2b n=(n !=0):=rfl
theorem Nr(M M'):std.eqm M M'=(M=M'):=rfl
theorem Jq(hA:A=std)(x:SV):A.eqv x x:=by subst hA;exact rfl
theorem vT:True:=⟨⟩
theorem vA{a b:Prop}(h:a)(g:b):a∧b:=⟨h,g⟩
theorem vD(hA:A=std){f:Unit->Bool}(h:f ()=true:=by kernel_rfl):A.dr f:=RK hA h
theorem vE(hA:A=std){x:SV} :A.eqv x x:=Jq hA x
theorem sS:(∀ k a b,std.add k a b=(k.wrap (a+b)))∧(∀ k a b,std.sub k a b=(k.wrap (a - b)))∧(∀ k a b,std.mul k a b=(k.wrap (a*b)))∧(∀ k a b,std.quo k a b=(k.wrap (a.tdiv b)))∧(∀ a b,std.rem a b=(a.tmod b))∧(∀ k a b,std.band k a b=(bits .and k a b))∧(∀ k a b,std.bor k a b=(bits .or k a b))∧(∀ k a b,std.bxor k a b=(bits .xor k a b))∧(∀ k a b,std.shl k a b=(k.wrap (a*2 ^(min b.toNat k.bits))))∧(∀ k a b,std.shr k a b=(a.fdiv (2 ^(min b.toNat k.bits))))∧(∀ a b,std.eq a b=(a==b))∧(∀ a b,std.ne a b=(a !=b))∧(∀ a b,std.lt a b=(decide (a<b)))∧(∀ a b,std.le a b=(decide (a<=b)))∧(∀ k n,std.conv k n=(k.wrap n))∧(∀ b,std.not b=(!b))∧(∀ a b,std.beq a b=(a==b))∧(∀ a b,std.bne a b=(!(a==b)))∧(∀ c p q,std.ite c p q=(bif c then p else q))∧(∀ c d w,std.want c d w=(c &&(d==w)))∧(∀ a b,std.and2 a b=(a && b))∧(∀ a b,std.sadd a b=(a++b))∧(∀ a b,std.seq a b=(a==b))∧(∀ a b,std.sne a b=(!(a==b)))∧(∀ a b,std.slt a b=(Op.bytesLess a b))∧(∀ a b,std.sle a b=(Op.bytesLess a b|| (a==b)))∧(∀ a b,std.sgt a b=(!(Op.bytesLess a b|| (a==b))))∧(∀ a b,std.sge a b=(!Op.bytesLess a b))∧(∀ s,std.slen s=((s.length:Int)))∧(∀ s i,std.sget s i=(((s[i.toNat]?.getD 0).toNat:Int)))∧(∀ s a b,std.scut s a b=((s.take b.toNat).drop a.toNat))∧(∀ n,std.ofNat n=((n:Int)))∧(∀ i,std.toNat i=(i.toNat))∧(∀ a b,std.nsub a b=(a - b))∧(∀ a b,std.nadd a b=(a+b))∧(∀ l,std.lenOf l=(l.length))∧(∀ b,std.nz b=(b≠0))∧(∀ b,std.nneg b=(0<=b))∧(∀ i n,std.inb i n=(0<=i∧i<(n:Int)))∧(∀ a b,std.upto a b=(a<=b))∧(∀ a b,std.slt63 a b=(a.length+b.length<=9223372036854775807))∧(∀ n m b,std.grow n m b=(n+m<=9223372036854775807∧(n+m)*b<=140737488355328))∧(∀ c p,std.imp c p=(c=true->p))∧(∀ c p,std.impN c p=(c=false->p))∧(∀ c,std.tr c=(c=true))∧(∀ f,std.tb f=(f ()))∧(∀ f,std.ti f=(f ()))∧(∀ f,std.ts f=(f ()))∧(∀ f,std.tn f=(f ()))∧(∀ f,std.tp f=(f ()))∧(∀ a b,std.nmin a b=(Nat.min a b))∧(∀ g i n j,std.nset g i n j=(if j=i then n else g j))∧(∀ f i g j,std.fset f i g j=(if j=i then g else f j))∧(∀ a b by_,std.makes a b by_=(0<=a∧a<=b∧b<=9223372036854775807∧b.toNat*by_<=140737488355328))∧(∀ b m n,std.room b m n=(0<n∧b+m<=n))∧(∀ z by_,std.zeros z by_=(0<z∧z<=4611686018427387904∧z.toNat*by_<=140737488355328))∧(∀ b n,std.nilq b n=(b=true->n=0))∧(∀ b n,std.notq b n=(b=false->n=0))∧(∀ a b,std.eqi a b=(a=b))∧(∀ a b,std.eqn a b=(a=b))∧(∀ a b,std.eqb a b=(a=b))∧(∀ a b,std.eqs a b=(a=b))∧(∀ a b,std.eqv a b=(a=b))∧(∀ n f g,std.cat n f g=bd n f g)∧(∀ l,std.lst l=bf l)∧(∀ f i off l,std.rset f i off l=a8 f i off l)∧(∀ f lo m g,std.rcopy f lo m g=aO f lo m g)∧(∀ f lo,std.shift f lo=aI f lo)∧(∀ n k f g,std.eqr n k f g=ba n k f g)∧(∀ n f,std.strOf n f=aM n f)∧(∀ l,std.bytesOf l=aE l)∧(∀ n f,std.isB n f=bw n f)∧(∀ s,std.zOf s=uD s)∧(∀ k n,uD (.int k n)=n)∧(∀ k s,std.isI k s=uE k s)∧(∀ k n,uE k (.int k n))∧(∀ l n,std.getL l n=ap l n)∧(∀ a b,std.nmul a b=a*b)∧(∀ s,std.sOf s=uF s)∧(∀ l,uF (.str l)=l)∧(∀ s,std.isS s=uG s)∧(∀ l,uG (.str l))∧(∀ a b,std.fadd a b=(Ieee.double.add a b).getD 0)∧(∀ a b,std.fsub a b=(Ieee.double.sub a b).getD 0)∧(∀ a b,std.fav a b=((Ieee.double.add a b).isSome=true))∧(∀ a b,std.fsv a b=((Ieee.double.sub a b).isSome=true))∧(∀ a b,std.feq a b=(Ieee.double.order a b==some .eq))∧(∀ a b,std.fne a b=(Ieee.double.order a b !=some .eq))∧(∀ a b,std.flt a b=(Ieee.double.order a b==some .lt))∧(∀ a b,std.fle a b=(Ieee.double.order a b==some .lt||Ieee.double.order a b==some .eq))∧(∀ a b,std.fgt a b=(Ieee.double.order a b==some .gt))∧(∀ a b,std.fge a b=(Ieee.double.order a b==some .gt||Ieee.double.order a b==some .eq))∧(∀ n,std.fOf n=FloatKind.f64.nearest n)∧(∀ b,std.fTo b=((FloatKind.f64.decode b).toInt .zero).getD 0)∧(∀ k b,std.fTv k b= ∃ n,(FloatKind.f64.decode b).toInt .zero=some n∧k.min<=n∧n<=k.max)∧(∀ M a b n,std.mput M a b n=dh M a b n)∧(∀ M a b,std.mget M a b=dx M a b)∧(∀ M,std.mlen M=(M.length:Int))∧(∀ b,std.b2i b=(bif b then 1 else 0))∧(∀ n,std.i2b n=(n !=0))∧(∀ M M',std.eqm M M'=(M=M')):=⟨@Mz, @MA, @MB, @MC, @MD, @IW, @ME, @IX, @MF, @MG, @Pc, @Pd, @Pe, @Pf, @IY, @MH, @MI, @MJ, @MK, @IZ, @I0, @I1, @ML, @MN, @MO, @MP, @MQ, @MR, @I3, @I4, @I5, @Ga, @Gb, @I6, @I7, @Gc, @Pg, @I8, @MS, @I9, @Ge, @Ja, @MT, @Jb, @Ph, @Pi, @Pj, @Pk, @Pl, @Pm, @Jc, @Jd, @Je, @Gf, @Jf, @Gg, @Jg, @Jl, @Nf, @Ng, @Nh, @Ni, @Nj, @Nk, @Nl, @Jm, @Gh, @Gi, @Nm, @Gj, @A5, @Nn, @MU, @MV, @MW, @Co, @Jh, @Ji, @MX, @MY, @MZ, @Nd, @Jj, @Jk, @M0, @M3, @M4, @M5, @M6, @M7, @M8, @M9, @Na, @Nb, @Nc, @Jn, @Jo, @Jp, @Np, @Nq, @Nr⟩
end Go.Vd
